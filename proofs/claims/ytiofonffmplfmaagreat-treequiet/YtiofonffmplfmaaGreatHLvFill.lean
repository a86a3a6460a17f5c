/- A block of one byte (the statements' own), and blocks by the document's type. -/
import Derived.Test.YtiofonffmplfmaaGreatHJMap
import Derived.Test.YtiofonffmplfmaaGreatHTrFollow
import Derived.Test.YtiofonffmplfmaaGreatHNdAwake
import Derived.Test.YtiofonffmplfmaaGreatHTrRead
import Derived.Test.YtiofonffmplfmaaGreatHNdTake
import Derived.Test.YtiofonffmplfmaaGreatHSegsTree
import Derived.Deep.DeepCutAuto
import Derived.Deep.Cut
import Derived.Handy

namespace Go.Proofs.YtiofonffmplfmaaGreat
open Go Go.RowKit
set_option linter.unusedSimpArgs false
set_option linter.unusedVariables false

theorem strN_bk {f g : Nat → Nat} (h : bkSame f g) : strN f 256 = strN g 256 := strN_congr h
theorem dgB_bk {f g : Nat → Nat} (h : bkSame f g) : dgB f = dgB g := by
  unfold dgB
  rw [strN_bk h]
theorem decK_bk {f g : Nat → Nat} (h : bkSame f g) : decK f = decK g := by
  funext i
  unfold decK rawK
  rw [strN_bk h]
theorem rdOk_bk {f g : Nat → Nat} (h : bkSame f g) : rdOk f = rdOk g := by
  have h4 : f 4 = g 4 := h 4 (by decide)
  have e : bkSame (nodeB (g 4) (decK g)) f ↔ bkSame (nodeB (g 4) (decK g)) g := ⟨fun q i hi => (q i hi).trans (h i hi), fun q i hi => (q i hi).trans (h i hi).symm⟩
  unfold rdOk
  rw [decK_bk h, h4, decide_eq_decide.2 e]
theorem blkAt_bk {X X' : Nat → Nat} {n a : Nat} (hx : ∀ x, x < n * 256 → X' x = X x) (ha : a < n) : bkSame (blkAt X' a) (blkAt X a) := fun j hj => hx _ (by omega)
theorem gotOk_ext {X X' : Nat → Nat} {n n' : Nat} {k : Rf} (hx : ∀ x, x < n * 256 → X' x = X x) (hn : n ≤ n') (h : gotOk X n k) : gotOk X' n' k := by
  obtain ⟨h1, h2, h3⟩ := h
  exact ⟨h1, by omega, (dgB_bk (blkAt_bk hx h2)).trans h3⟩
/-- what hangs beneath a reference of a level, in an image of n blocks X: G p is the leaf of the place p there -/
def Has (X : Nat → Nat) (n : Nat) : Nat → Rf → (Nat → Nat → Nat) → Prop
  | 0, r, G => (r = rf0 ∧ ∀ j, j < 256 → G 0 j = 0) ∨ (r ≠ rf0 ∧ gotOk X n r ∧ ∀ j, j < 256 → blkAt X r.1 j = G 0 j)
  | l + 1, r, G => (r = rf0 ∧ ∀ p, p < 4 ^ (l + 1) → ∀ j, j < 256 → G p j = 0) ∨ (r ≠ rf0 ∧ gotOk X n r ∧ rdOk (blkAt X r.1) = true ∧ blkAt X r.1 4 = l + 1 ∧ ∀ i, i < 4 → Has X n l (decK (blkAt X r.1) i) fun p => G (i * 4 ^ l + p))
theorem Has.ext {X X' : Nat → Nat} {n n' : Nat} (hx : ∀ x, x < n * 256 → X' x = X x) (hn : n ≤ n') : ∀ {l : Nat} {r : Rf} {G : Nat → Nat → Nat}, Has X n l r G → Has X' n' l r G
  | 0, r, G, h => by
    rcases h with h | ⟨h1, h2, h3⟩
    · exact .inl h
    · exact .inr ⟨h1, gotOk_ext hx hn h2, fun j hj => (blkAt_bk hx h2.2.1 j hj).trans (h3 j hj)⟩
  | l + 1, r, G, h => by
    rcases h with h | ⟨h1, h2, h3, h4, h5⟩
    · exact .inl h
    · have hb := blkAt_bk hx h2.2.1
      refine .inr ⟨h1, gotOk_ext hx hn h2, (rdOk_bk hb).trans h3, (hb 4 (by decide)).trans h4, fun i hi => ?_⟩
      rw [decK_bk hb]
      exact (h5 i hi).ext hx hn
theorem Has.congr {X : Nat → Nat} {n : Nat} : ∀ {l : Nat} {r : Rf} {G G' : Nat → Nat → Nat}, (∀ p, p < 4 ^ l → ∀ j, j < 256 → G p j = G' p j) → Has X n l r G → Has X n l r G'
  | 0, r, G, G', hg, h => by
    rcases h with ⟨h1, h2⟩ | ⟨h1, h2, h3⟩
    · exact .inl ⟨h1, fun j hj => (hg 0 (by decide) j hj).symm.trans (h2 j hj)⟩
    · exact .inr ⟨h1, h2, fun j hj => (h3 j hj).trans (hg 0 (by decide) j hj)⟩
  | l + 1, r, G, G', hg, h => by
    rcases h with ⟨h1, h2⟩ | ⟨h1, h2, h3, h4, h5⟩
    · exact .inl ⟨h1, fun p hp j hj => (hg p hp j hj).symm.trans (h2 p hp j hj)⟩
    · refine .inr ⟨h1, h2, h3, h4, fun i hi => (h5 i hi).congr fun p hp j hj => hg _ ?_ j hj⟩
      rw [Nat.pow_succ]
      have : i * 4 ^ l ≤ 3 * 4 ^ l := Nat.mul_le_mul_right _ (by omega)
      omega
theorem Has.none {X : Nat → Nat} {n l : Nat} {G : Nat → Nat → Nat} (h : ∀ p, p < 4 ^ l → ∀ j, j < 256 → G p j = 0) : Has X n l rf0 G := by
  cases l with
  | zero => exact .inl ⟨rfl, h 0 (by decide)⟩
  | succ l => exact .inl ⟨rfl, h⟩
theorem Has.zero {X : Nat → Nat} {n l : Nat} {G : Nat → Nat → Nat} (h : Has X n l rf0 G) : ∀ p, p < 4 ^ l → ∀ j, j < 256 → G p j = 0 := by
  cases l with
  | zero =>
    rcases h with ⟨_, h⟩ | ⟨h, _⟩
    · intro p hp
      obtain rfl : p = 0 := by simpa using hp
      exact h
    · exact absurd rfl h
  | succ l =>
    rcases h with ⟨_, h⟩ | ⟨h, _⟩
    · exact h
    · exact absurd rfl h
theorem Has.ok {X : Nat → Nat} {n l : Nat} {r : Rf} {G : Nat → Nat → Nat} (h : Has X n l r G) : rOk r = true := by
  have : r = rf0 ∨ r.1 ≠ 0 := by
    cases l with
    | zero =>
      rcases h with h | h
      · exact .inl h.1
      · exact .inr h.2.1.1
    | succ l =>
      rcases h with h | h
      · exact .inl h.1
      · exact .inr h.2.1.1
  unfold rOk
  rcases this with h | h
  · simp [h]
  · simp [h]
theorem apX_old (X : Nat → Nat) (n : Nat) (f : Nat → Nat) : ∀ x, x < n * 256 → apX X n f x = X x := fun x hx => if_pos hx
theorem apX_new (X : Nat → Nat) (n : Nat) (f : Nat → Nat) : bkSame (blkAt (apX X n f) n) f := fun j hj => by
  show (if n * 256 + j < n * 256 then _ else f (n * 256 + j - n * 256)) = f j
  rw [if_neg (by omega), show n * 256 + j - n * 256 = j by omega]
theorem ref_new {n : Nat} {f : Nat → Nat} (hn : 1 ≤ n) : ((n, dgB f) : Rf) ≠ rf0 := fun e => by
  have := congrArg Prod.fst e
  simp [rf0] at this
  omega
theorem gotOk_new (X : Nat → Nat) {n : Nat} (f : Nat → Nat) (hn : 1 ≤ n) : gotOk (apX X n f) (n + 1) (n, dgB f) := ⟨by show n ≠ 0; omega, by show n < n + 1; omega, dgB_bk (apX_new X n f)⟩
theorem putR_ext {X X' : Nat → Nat} {n n' : Nat} {f : Nat → Nat} {r : Rf} (h : PutR X n f X' n' r) : n ≤ n' ∧ n' ≤ n + 1 ∧ ∀ x, x < n * 256 → X' x = X x := by
  rcases h with ⟨_, rfl, rfl, rfl⟩ | ⟨_, rfl, rfl, rfl⟩
  · exact ⟨Nat.le_refl _, Nat.le_succ _, fun x _ => rfl⟩
  · exact ⟨Nat.le_succ _, Nat.le_refl _, apX_old X n f⟩
/-- a leaf that was put -/
theorem Has.leaf {X X' : Nat → Nat} {n n' : Nat} {f : Nat → Nat} {r : Rf} {G : Nat → Nat → Nat} (hn : 1 ≤ n) (h : PutR X n f X' n' r) (hG : ∀ j, j < 256 → G 0 j = f j) : Has X' n' 0 r G := by
  rcases h with ⟨h1, rfl, rfl, rfl⟩ | ⟨h1, rfl, rfl, rfl⟩
  · exact .inl ⟨rfl, fun j hj => (hG j hj).trans (h1 j hj)⟩
  · exact .inr ⟨ref_new hn, gotOk_new X f hn, fun j hj => (apX_new X n f j hj).trans (hG j hj).symm⟩
theorem nodeB_some (l : Nat) (K : Nat → Rf) : ¬ bkSame (nodeB l K) fun _ => 0 := fun h => by
  have := h 0 (by decide)
  simp [nodeB] at this
/-- a node that was put -/
theorem Has.node {X X' : Nat → Nat} {n n' l : Nat} {r : Rf} {K : Nat → Rf} {G : Nat → Nat → Nat} (hn : 1 ≤ n) (hl : l + 1 ≤ 6) (hK : ∀ i, i < 4 → okD (K i).2) (hK1 : ∀ i, i < 4 → (K i).1 < 4294967296) (hH : ∀ i, i < 4 → Has X n l (K i) fun p => G (i * 4 ^ l + p)) (h : PutR X n (nodeB (l + 1) K) X' n' r) : Has X' n' (l + 1) r G := by
  have hok : ndOk ((l + 1 : Nat) : Int) K = true := by
    unfold ndOk
    simp only [Bool.and_eq_true, decide_eq_true_eq, List.all_eq_true, List.mem_range]
    exact ⟨⟨by omega, by omega⟩, fun i hi => (hH i hi).ok⟩
  rcases h with ⟨h1, rfl, rfl, rfl⟩ | ⟨h1, rfl, rfl, rfl⟩
  · exact absurd h1 (nodeB_some _ _)
  · have hb := apX_new X n (nodeB (l + 1) K)
    refine .inr ⟨ref_new hn, gotOk_new X _ hn, rdOk_of (l + 1) K hok hK hK1 _ hb, (hb 4 (by decide)).trans rfl, fun i hi => ?_⟩
    rw [decK_of (l + 1) K hok hK hK1 _ hb i hi]
    exact (hH i hi).ext (apX_old X n _) (Nat.le_succ _)
theorem ndOk_has {X : Nat → Nat} {n l : Nat} {K : Nat → Rf} {G : Nat → Nat → Nat → Nat} (hl : l + 1 ≤ 6) (hH : ∀ i, i < 4 → Has X n l (K i) (G i)) : ndOk ((l + 1 : Nat) : Int) K = true := by
  unfold ndOk
  simp only [Bool.and_eq_true, decide_eq_true_eq, List.all_eq_true, List.mem_range]
  exact ⟨⟨by omega, by omega⟩, fun i hi => (hH i hi).ok⟩
/-- where the way to a place leads -/
theorem Has.fol {X : Nat → Nat} {n : Nat} : ∀ {l : Nat} {r : Rf} {G : Nat → Nat → Nat} {q : Nat} {ps : List Nat}, Has X n l r G → q < 4 ^ l → ps = (List.range l).map (wayN l q) → (folR X n (l : Int) r ps).2 = 0 ∧ Has X n 0 (folR X n (l : Int) r ps).1 fun _ => G q
  | 0, r, G, q, ps, h, hq, hps => by
    obtain rfl : q = 0 := by simpa using hq
    subst hps
    refine ⟨rfl, ?_⟩
    rcases h with h | h
    · exact .inl h
    · exact .inr h
  | l + 1, r, G, q, ps, h, hq, hps => by
    have hps2 : ps = (q / 4 ^ l % 4) :: (List.range l).map (wayN l (q % 4 ^ l)) := by
      rw [hps, List.range_succ_eq_map, List.map_cons, List.map_map]
      congr 1
      refine List.map_congr_left fun i hi => ?_
      have hi2 := List.mem_range.1 hi
      show q / 4 ^ (l + 1 - 1 - (i + 1)) % 4 = q % 4 ^ l / 4 ^ (l - 1 - i) % 4
      rw [show l + 1 - 1 - (i + 1) = l - 1 - i by omega]
      have e : 4 ^ l = 4 ^ (l - 1 - i) * (4 * 4 ^ i) := by
        rw [← Nat.pow_succ', ← Nat.pow_add]
        congr 1
        omega
      rw [e, Nat.mod_mul_right_div_self]
      rw [Nat.mod_mul_right_mod]
    subst hps2
    rcases h with ⟨h1, h2⟩ | ⟨h1, h2, h3, h4, h5⟩
    · subst h1
      rw [folR_none]
      exact ⟨rfl, .inl ⟨rfl, h2 q hq⟩⟩
    · have hgF : gotF X n r = blkAt X r.1 := if_pos ⟨h1, h2⟩
      have hgE : gotE X n r = 0 := if_pos (.inr h2)
      have hnd : nodE X n ((l + 1 : Nat) : Int) r = 0 := by
        unfold nodE
        rw [if_pos hgE, if_pos]
        rw [hgF]
        exact ⟨h3, by rw [h4]⟩
      have hstep : folR X n ((l + 1 : Nat) : Int) r ((q / 4 ^ l % 4) :: (List.range l).map (wayN l (q % 4 ^ l))) = folR X n (l : Int) (decK (blkAt X r.1) (q / 4 ^ l % 4)) ((List.range l).map (wayN l (q % 4 ^ l))) := by
        rw [folR, if_neg h1, if_pos hnd, hgF]
        congr 1
        omega
      rw [hstep]
      have hpos : 0 < 4 ^ l := Nat.pow_pos (by decide)
      have hdiv : q / 4 ^ l < 4 := Nat.div_lt_of_lt_mul (by rw [Nat.pow_succ] at hq; omega)
      have := (h5 (q / 4 ^ l % 4) (Nat.mod_lt _ (by decide))).fol (q := q % 4 ^ l) (Nat.mod_lt _ hpos) rfl
      rw [Nat.mod_eq_of_lt hdiv] at this ⊢
      have e : q / 4 ^ l * 4 ^ l + q % 4 ^ l = q := by
        have := Nat.div_add_mod q (4 ^ l)
        rw [Nat.mul_comm] at this
        exact this
      simp only [e] at this
      exact this
/-- the leaf of a place, by a list of keys and leaves -/
def gJ (L : List (Int × (Nat → Nat))) (a : Int) : Nat → Nat := (findIn a L).getD fun _ => 0
def lfV (f : Nat → Nat) : Value := .agg (va 256 (iv .u8 f))
/-- leaves by their places: a list told once -/
structure LvOk (L : List (Int × (Nat → Nat))) : Prop where
  key : ∀ a ∈ L, 0 ≤ a.1 ∧ a.1 ≤ 9223372036854775807
  byte : ∀ a ∈ L, ∀ j, a.2 j < 256
theorem findJ_mem {β : Type} {a : Int} {v : β} : ∀ {l : List (Int × β)}, findIn a l = some v → (a, v) ∈ l
  | [], h => by cases h
  | p :: l, h => by
    unfold findIn at h
    by_cases hq : a = p.1
    · rw [if_pos hq] at h
      cases h
      rw [hq]
      simp
    · rw [if_neg hq] at h
      exact List.mem_cons_of_mem _ (findJ_mem h)
theorem gJ_byte {L : List (Int × (Nat → Nat))} (h : LvOk L) (a : Int) (j : Nat) : gJ L a j < 256 := by
  unfold gJ
  cases hf : findIn a L with
  | none => exact Nat.zero_lt_succ _
  | some f => exact h.byte _ (findJ_mem hf) j
theorem gJ_none {L : List (Int × (Nat → Nat))} {a : Int} (h : a ∉ L.map (·.1)) : gJ L a = fun _ => 0 := by
  unfold gJ
  cases hf : findIn a L with
  | none => rfl
  | some f => exact absurd (List.mem_map.2 ⟨_, findJ_mem hf, rfl⟩) h
/-- a look-up tells the leaf -/
theorem JM.leaf {P : Program} {mt kt et : TypeId} (hm : P.underlying mt = some (.map kt et)) (hk : P.underlying kt = some (.int .i64)) (hz : ∀ w, (zeroValue et).run P w = .ok (lfV fun _ => 0) w) {w : World} {m : Nat} {L : List (Int × (Nat → Nat))} (h : JM lfV w m L) (a : Int) :
    (Instr.lookup mt (.map (some m)) (.int .i64 a) false).run P w = .ok (lfV (gJ L a)) w := by
  have := intMap_look (V := lfV) hm hk hz h.is a false
  rw [if_neg (by decide)] at this
  rw [this]
  unfold gJ
  cases findIn a L <;> rfl
end Go.Proofs.YtiofonffmplfmaaGreat

namespace Go.Proofs.YtiofonffmplfmaaGreat
open Go Go.RowKit
set_option linter.unusedSimpArgs false
set_option linter.unusedVariables false

theorem size256 : (Tryz.prog.info? 49).map (·.size) = some 256 := by kernel_rfl
set_option maxRecDepth 100000 in
set_option maxHeartbeats 4000000 in
theorem filled9_any (x : Nat) (w : World) : Calls Tryz.prog 15 #[.int .u8 (x : Int)] w fun e w' => e = .returned (.agg (va 256 (iv .u8 fun _ => x))) ∧ Below w.heap.size w w' := by
  have hz := zero_256
  have r0 : Blk ((w.alloc (.cells (va 256 (iv .u8 fun _ => 0)) 49)).alloc (.cells (va 256 (iv .u8 fun _ => 0)) 49)) w.heap.size 49 (va 256 (iv .u8 fun _ => 0)) := (Blk.new _ _ _).alloc _
  have r1 : Blk ((w.alloc (.cells (va 256 (iv .u8 fun _ => 0)) 49)).alloc (.cells (va 256 (iv .u8 fun _ => 0)) 49)) (w.heap.size + 1) 49 (va 256 (iv .u8 fun _ => 0)) := Blk.new1 _ _ _ _
  have hb0 : Below w.heap.size w ((w.alloc (.cells (va 256 (iv .u8 fun _ => 0)) 49)).alloc (.cells (va 256 (iv .u8 fun _ => 0)) 49)) := below_new2 _ _ _
  go_enter Tryz.func15, Tryz.ntmps15
  go_wp2_with (first
    | (refine wpList_store_row (by rfl) 49 _ _ (by rfl) (w.heap.size + 1) (va 256 (iv .u8 (fun _ => 0))) (by rfl) (by rfl) 49 _ r1 (size256.trans (by rw [va_size])) (by simp only [va_size]) (iv_one _ _ _) ?_; simp only [Act.put, List.setIfInBounds_toArray, List.set_cons_zero, List.set_cons_succ])
    | fail)
  go_loopw [4] (fun t wr => ∃ k : Nat, k ≤ 256 ∧ t = .int .i64 (k : Int) ∧ Blk wr w.heap.size 49 (va 256 (iv .u8 fun _ => 0)) ∧ Blk wr (w.heap.size + 1) 49 (va 256 (iv .u8 (fupN k (fun _ => x) fun _ => 0))) ∧ Below w.heap.size w wr) (fun t _ => 256 - (intOf t).toNat)
  case atStart =>
    refine ⟨0, by decide, rfl, r0.other _ (by omega), ?_, below_setRow hb0 (by omega) _⟩
    rw [fup_zero]
    exact r1.set _
  case round =>
    obtain ⟨k, hk, rfl, q0, q1, hb⟩ := hrel
    clear r0 r1 hb0
    by_cases hlt : k < 256
    · have c0 := q1.cv (i := k) hlt
      have f0 := q1.frozen k
      have k0 : (0 : Int) ≤ (k : Int) := by omega
      have k1 : (k : Int) < 256 := by omega
      have q2 : Blk (wr.setCell ⟨w.heap.size + 1, k, none⟩ (.int .u8 (x : Int))) (w.heap.size + 1) 49 (va 256 (iv .u8 (fupN (k + 1) (fun _ => x) fun _ => 0))) := by
        have := q1.put k (.int .u8 (x : Int))
        rw [va_set] at this
        have e := fup_step .u8 256 k (fun _ => x) (fun _ => 0)
        rw [e] at this
        exact this
      have q3 : Blk (wr.setCell ⟨w.heap.size + 1, k, none⟩ (.int .u8 (x : Int))) w.heap.size 49 (va 256 (iv .u8 fun _ => 0)) := q0.put_other _ _ (by omega)
      have hb2 : Below w.heap.size w (wr.setCell ⟨w.heap.size + 1, k, none⟩ (.int .u8 (x : Int))) := hb.setCell (p := ⟨w.heap.size + 1, k, none⟩) (Nat.le_succ _) _
      go_wp2_with fail
      refine ⟨⟨k + 1, by omega, by simp, q3, q2, hb2⟩, ?_⟩
      simp [intOf]
      omega
    · obtain rfl : k = 256 := by omega
      rw [fup_all _ _ _ _ _ (Nat.le_refl _)] at q1
      go_wp2_with (first
        | (refine wpList_load_row (by rfl) 49 _ (by rfl) (w.heap.size + 1) (by rfl) 49 (va 256 (iv .u8 (fun _ => x))) (0, 0) _ q1 Tryz.underlying49 (by rfl) (size256.trans (by rw [va_size])) ?_; simp only [Act.put, List.setIfInBounds_toArray, List.set_cons_zero, List.set_cons_succ])
        | (refine wpList_store_row (by rfl) 49 _ _ (by rfl) (w.heap.size) (va 256 (iv .u8 (fun _ => x))) (by rfl) (by rfl) 49 _ q0 (size256.trans (by rw [va_size])) (by simp only [va_size]) (iv_one _ _ _) ?_; simp only [Act.put, List.setIfInBounds_toArray, List.set_cons_zero, List.set_cons_succ])
        | fail)
      try simp only [Exit.inBlock, Exit.then]
      refine bodyPost_ret (results_cell_row Tryz.results15 _ _ w.heap.size 49 (va 256 (iv .u8 fun _ => x)) (0, 0) _ rfl (q0.set _) Tryz.underlying49 rfl (size256.trans (by rw [va_size]))) rfl ?_
      exact ⟨rfl, below_setRow hb (Nat.le_refl _) _⟩
end Go.Proofs.YtiofonffmplfmaaGreat
