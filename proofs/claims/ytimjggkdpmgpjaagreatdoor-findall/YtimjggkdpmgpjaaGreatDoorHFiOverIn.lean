/- Searches: over at a directory, whatever function is asked. -/
import Derived.Test.YtimjggkdpmgpjaaGreatDoorHFiBT
import Derived.Test.YtimjggkdpmgpjaaGreatDoorHFiOvM
import Derived.Test.YtimjggkdpmgpjaaGreatDoorHDiList
import Derived.Test.YtimjggkdpmgpjaaGreatDoorHPaSplit
import Derived.Test.YtimjggkdpmgpjaaGreatDoorHPaParts
import Derived.Handy
import Derived.Shelf.Strings.Prefix
import Derived.Test.YtimjggkdpmgpjaaGreatDoorProg

namespace Go.Proofs.YtimjggkdpmgpjaaGreatDoor
open Go Go.RowKit Go.Nam
set_option linter.unusedSimpArgs false
set_option linter.unusedVariables false
attribute [local go_sem] st_nil st_fun
def fdC (s : ByteArray) (n k l z : Int) (st : Nat) : Array Value := #[.string s, .int .i64 n, .int .i64 k, .int .i64 l, .int .i64 z, .int .u64 ((st : Nat) : Int)]
theorem fd_build (s : ByteArray) (n k l z : Int) (st : Nat) : Array.foldl (fun cs (x : Value × Nat) => cs.setIfInBounds (1 + x.2) x.1) #[Value.string s, .int .i64 0, .int .i64 0, .int .i64 0, .int .i64 0, .int .u64 0] (nfC n k l z st).zipIdx 0 5 = fdC s n k l z st := by
  have h : Array.foldl (fun cs (x : Value × Nat) => cs.setIfInBounds (1 + x.2) x.1) #[Value.string s, .int .i64 0, .int .i64 0, .int .i64 0, .int .i64 0, .int .u64 0] (nfC n k l z st).zipIdx 0 (nfC n k l z st).zipIdx.size = fdC s n k l z st := by simp [nfC, fdC]
  exact h
def uV (_ : Unit) : Value := .agg #[]
theorem uV_zero (w : World) : (zeroValue 164).run Tryz.prog w = .ok (.agg #[]) w := di_zero (by kernel_rfl) w
/-- the map of the directories that were gone into -/
def MP (w : World) (rm : Nat) (I : List Nat) : Prop := ∃ l : List (Int × Unit), MapIs jK uV w rm l ∧ ∀ m : Nat, (findIn (m : Int) l).isSome = decide (m ∈ I)
section
variable {w w' : World} {rm : Nat} {I : List Nat}
theorem MP.lt (h : MP w rm I) : rm < w.heap.size := by
  obtain ⟨l, h1, _⟩ := h
  exact h1.lt
theorem MP.turn {T : Nat → Prop} (h : MP w rm I) (ht : Turns T w w') (hT : ¬ T rm) : MP w' rm I := by
  obtain ⟨l, h1, h2⟩ := h
  exact ⟨l, h1.of (ht.block rm h1.lt hT), h2⟩
theorem MP.new {k : Nat} (h : w.heap[rm]? = some (.map #[] k)) : MP w rm [] := ⟨[], ⟨#[], k, h, rfl⟩, fun m => by simp [findIn]⟩
theorem MP.look (h : MP w rm I) (n : Nat) : (Instr.lookup 92 (.map (some rm)) (.int .i64 (n : Int)) true).run Tryz.prog w = .ok (.tuple #[.agg #[], .bool (decide (n ∈ I))]) w := by
  obtain ⟨l, h1, h2⟩ := h
  have := intMap_look (V := uV) Tryz.underlying92 Tryz.underlying3 uV_zero h1 (n : Int) true
  rw [if_pos rfl, h2 n] at this
  rw [this]
  cases findIn (n : Int) l <;> rfl
theorem MP.put (h : MP w rm I) (n : Nat) : ∃ w', (Instr.mapUpdate 92 (.map (some rm)) (.int .i64 (n : Int)) (.agg #[])).run Tryz.prog w = .ok () w' ∧ MP w' rm (n :: I) ∧ Turns (fun z => z = rm) w w' := by
  obtain ⟨l, h1, h2⟩ := h
  obtain ⟨w', l', g1, g2, g3, _, _, _, g4⟩ := intMap_put (V := uV) Tryz.underlying92 Tryz.underlying3 h1 (n : Int) ()
  refine ⟨w', g1, ⟨l', g2, fun m => ?_⟩, g4⟩
  rw [g3]
  by_cases c : m = n
  · subst c
    simp
  · rw [if_neg (by omega), h2]
    simp [c]
end
/-- inodes that hold a folder, with what is held told -/
structure BJ (w : World) (x mf ml mc : Nat) (cp : Option Addr) (all : Nat) (F : Fo) (H : Nat → Hd) (D : Nat → Nat → Nat → Nat) : Prop where
  im : IM w x mf ml mc cp (all : Int) H D
  di : ∀ n, F.dr n = true → Di H D n (F.K n) 1 (F.N n) (F.S n)
  fl : ∀ n, 1 ≤ n → n ≤ all → F.dr n = false → (H n).k = 1 ∧ (H n).n = (n : Int)
  dm : ∀ n, F.dr n = true → 1 ≤ n ∧ n ≤ all
  en : ∀ n, F.dr n = true → ∀ p, p < F.K n → 1 ≤ F.N n p ∧ F.N n p ≤ (all : Int)
  al : 1 ≤ all ∧ all ≤ 31
theorem BI.fix {w : World} {B0 x mf ml mc : Nat} {cp : Option Addr} {all : Nat} {F : Fo} (h : BI w B0 x mf ml mc cp all F 0) : ∃ H D, BJ w x mf ml mc cp all F H D := by
  obtain ⟨H, D, h1, h2, h3, _⟩ := h.im
  exact ⟨H, D, h1, h2, fun n a b c => h3 n a b c (by omega), h.dm, h.en, h.al⟩
section
variable {w w' : World} {x mf ml mc : Nat} {cp : Option Addr} {all : Nat} {F : Fo} {H : Nat → Hd} {D : Nat → Nat → Nat → Nat}
theorem BJ.turn {T : Nat → Prop} (h : BJ w x mf ml mc cp all F H D) (ht : Turns T w w') (hT : ¬ T x ∧ ¬ T mf ∧ ¬ T ml ∧ ¬ T mc) : BJ w' x mf ml mc cp all F H D := by
  have hl := h.im.lts
  exact ⟨h.im.keep (ht.block _ hl.1 hT.1) (ht.block _ hl.2.1 hT.2.1) (ht.block _ hl.2.2.1 hT.2.2.1) (ht.block _ hl.2.2.2 hT.2.2.2), h.di, h.fl, h.dm, h.en, h.al⟩
theorem BJ.below (h : BJ w x mf ml mc cp all F H D) (hb : Below w.heap.size w w') : BJ w' x mf ml mc cp all F H D := h.turn (T := fun _ => False) (Turns.of_below hb) ⟨id, id, id, id⟩
theorem BJ.kd (h : BJ w x mf ml mc cp all F H D) (n : Nat) (hn : 1 ≤ n ∧ n ≤ all) : (H n).k = if F.dr n = true then 2 else 1 := by
  cases q : F.dr n with
  | true => rw [if_pos rfl]; exact (h.di n q).kd
  | false => rw [if_neg (by decide)]; exact (h.fl n hn.1 hn.2 q).1
theorem BJ.getN (h : BJ w x mf ml mc cp all F H D) (n : Nat) (hn : 1 ≤ n ∧ n ≤ all) : Calls Tryz.prog 34 #[.pointer (some ⟨x, 0, none⟩), .int .i64 (n : Int)] w fun e w' => e = .returned (.tuple #[.agg (nfC (n : Int) (H n).k (H n).l (H n).s (H n).t), .int .i64 0]) ∧ Below w.heap.size w w' := by
  have hal := h.al
  have hno : (H n).n = (n : Int) := by
    cases q : F.dr n with
    | true => exact (h.di n q).no
    | false => exact (h.fl n hn.1 hn.2 q).2
  have hk : (H n).k ≠ 0 := by
    rw [h.kd n hn]
    split <;> decide
  have := h.im.get n hn.1 (by omega) hk
  rw [hno] at this
  exact this
end
/-- what is asked of the function that is handed to over -/
structure OC {σ : Type} (fn : Nat) (caps : Array Value) (L0 : List Fd) (H : Nat → Hd) (g : Nat → Bool) (ft : σ → Nat → Prop) (Q : Nat → σ → World → Prop) (rm x mf ml mc : Nat) : Prop where
  call : ∀ j s V N n, L0[j]? = some (N, n) → rm < V.heap.size → Q j s V → Calls Tryz.prog fn (#[.agg (fdC (bsL (frmL N)) ((n : Nat) : Int) (H n).k (H n).l (H n).s (H n).t)] ++ caps) V fun e w' => e = .returned (.bool (g j)) ∧ ∃ s', Q (j + 1) s' w' ∧ Turns (ft s) V w' ∧ ∀ b, ft s' b → ft s b ∨ V.heap.size ≤ b
  keep : ∀ j s V V' (T : Nat → Prop), Q j s V → Turns T V V' → (∀ b, T b → ¬ ft s b) → Q j s V'
  lt : ∀ j s V b, Q j s V → ft s b → b < V.heap.size
  ap : ∀ j s V, Q j s V → ¬ ft s rm ∧ ¬ ft s x ∧ ¬ ft s mf ∧ ¬ ft s ml ∧ ¬ ft s mc
/-- what over tells -/
def OvR {σ : Type} (g : Nat → Bool) (ft : σ → Nat → Prop) (Q : Nat → σ → World → Prop) (rm p len : Nat) (J : List Nat) (s : σ) (V : World) (e : Ending) (w' : World) : Prop :=
  ∃ s', (((∀ t, t < len → g (p + t) = true) ∧ e = .returned (.tuple #[.bool true, .int .i64 0]) ∧ Q (p + len) s' w' ∧ MP w' rm J) ∨ (∃ q, q < len ∧ (∀ t, t < q → g (p + t) = true) ∧ g (p + q) = false ∧ e = .returned (.tuple #[.bool false, .int .i64 0]) ∧ Q (p + q + 1) s' w')) ∧ Turns (fun z => ft s z ∨ z = rm) V w' ∧ ∀ b, ft s' b → ft s b ∨ V.heap.size ≤ b
theorem blk_turn {w w' : World} {b e : Nat} {xs : Array Value} {T : Nat → Prop} (h : Blk w b e xs) (ht : Turns T w w') (hT : ¬ T b) : Blk w' b e xs := (ht.block b h.lt hT).trans h
set_option maxRecDepth 100000 in
set_option maxHeartbeats 16000000 in
/-- a file, or a directory that was gone into already -/
theorem over_out {σ : Type} {all x mf ml mc rm fn : Nat} {cp : Option Addr} {F : Fo} {H : Nat → Hd} {D : Nat → Nat → Nat → Nat} {caps : Array Value} {g : Nat → Bool} {L0 : List Fd} {ft : σ → Nat → Prop} {Q : Nat → σ → World → Prop} (ef : ∀ args w, (callFunc fn args).run Tryz.prog w = .ok (.enter fn args) w) (HC0 : OC fn caps L0 H g ft Q rm x mf ml mc) (hr : rm ≠ x ∧ rm ≠ mf ∧ rm ≠ ml ∧ rm ≠ mc) (N : List ByteArray) (n : Nat) (I : List Nat) (p : Nat) (s : σ) (hn : 1 ≤ n ∧ n ≤ all) (ho : ¬ (F.dr n = true ∧ n ∉ I)) (hp : L0[p]? = some (N, n)) (w : World) (hB : BJ w x mf ml mc cp all F H D) (hM : MP w rm I) (hQ : Q p s w) :
    Calls Tryz.prog 30 #[.agg #[.pointer (some ⟨x, 0, none⟩), .func (.func fn) #[] caps, .map (some rm)], .string (bsL (frmL N)), .int .i64 (n : Int)] w (OvR g ft Q rm p 1 I s w) := by
  have HG : Hid (∀ V, Below w.heap.size w V → Calls Tryz.prog 34 #[.pointer (some ⟨x, 0, none⟩), .int .i64 (n : Int)] V fun e w' => e = .returned (.tuple #[.agg (nfC (n : Int) (H n).k (H n).l (H n).s (H n).t), .int .i64 0]) ∧ Below V.heap.size V w') := fun V hV => (hB.below hV).getN n hn
  have HC : Hid (OC fn caps L0 H g ft Q rm x mf ml mc) := HC0
  have HW : Hid (BJ w x mf ml mc cp all F H D ∧ MP w rm I ∧ Q p s w) := ⟨hB, hM, hQ⟩
  have HKD : Hid ((H n).k = if F.dr n = true then 2 else 1) := hB.kd n hn
  have hz := zero_nf
  have hzu := uV_zero
  have b0 : Blk (w.alloc (.cells #[.pointer (some ⟨x, 0, none⟩), .func (.func fn) #[] caps, .map (some rm)] 94)) w.heap.size 94 #[.pointer (some ⟨x, 0, none⟩), .func (.func fn) #[] caps, .map (some rm)] := Blk.new _ _ _
  have hb : Below w.heap.size w (w.alloc (.cells #[.pointer (some ⟨x, 0, none⟩), .func (.func fn) #[] caps, .map (some rm)] 94)) := below_new1 w _
  have c0 := (b0.cell 0).trans rfl
  obtain ⟨k, hk⟩ : ∃ k, k = (H n).k := ⟨_, rfl⟩
  obtain ⟨l, hl⟩ : ∃ k, k = (H n).l := ⟨_, rfl⟩
  obtain ⟨z, hz9⟩ : ∃ k, k = (H n).s := ⟨_, rfl⟩
  obtain ⟨st, hst⟩ : ∃ k, k = (H n).t := ⟨_, rfl⟩
  rw [← hk, ← hl, ← hz9, ← hst] at HG
  rw [← hk] at HKD
  have HH : Hid (k = (H n).k ∧ l = (H n).l ∧ z = (H n).s ∧ st = (H n).t) := ⟨hk, hl, hz9, hst⟩
  clear hk hl hz9 hst HC0 hB hM hQ
  go_enter Tryz.func30, Tryz.ntmps30
  go_wp2_with fail
  generalize (w.alloc (.cells #[.pointer (some ⟨x, 0, none⟩), .func (.func fn) #[] caps, .map (some rm)] 94)) = w1 at *
  refine (HG.out _ hb).mono ?_
  rintro e w2 ⟨rfl, hb2⟩
  have hb12 := hb.trans (hb2.mono hb.size)
  have d0 := b0.below hb2 b0.lt
  have u1 : Blk (w2.alloc (.cells nf0 40)) w2.heap.size 40 nf0 := Blk.new _ _ _
  have u2 : Blk ((w2.alloc (.cells nf0 40)).setRow w2.heap.size (nfC (n : Int) k l z st)) w2.heap.size 40 (nfC (n : Int) k l z st) := u1.set _
  have hn3 : Below w2.heap.size w2 ((w2.alloc (.cells nf0 40)).setRow w2.heap.size (nfC (n : Int) k l z st)) := below_setRow (below_new1 _ _) (Nat.le_refl _) _
  have e0 := d0.below hn3 d0.lt
  have hb13 := hb12.trans (hn3.mono hb12.size)
  have c1 : ((w2.alloc (.cells nf0 40)).setRow w2.heap.size (nfC (n : Int) k l z st)).cell? ⟨w.heap.size, 1, none⟩ = some (.func (.func fn) #[] caps) := (e0.cell 1).trans rfl
  have hs5 : (nfC (n : Int) k l z st).size = 5 := rfl
  have HLE : Hid (w.heap.size < w2.heap.size) := d0.lt
  clear b0 hb c0 hb2 hb12 d0 HG
  go_wp2_with (first | (refine wpList_store_row (by rfl) 40 _ _ (by rfl) (w2.heap.size) (nfC (n : Int) k l z st) (by rfl) (by rfl) 40 (nf0) (by exact u1) (size_nf.trans (by rfl)) (by rfl) (nf_all _ _ _ _ _) ?_; simp only [Act.put, List.setIfInBounds_toArray, List.set_cons_zero, List.set_cons_succ]) | (refine wpList_load_rowg (by rfl) 40 _ (by rfl) (w2.heap.size) (by rfl) 40 (nfC (n : Int) k l z st) (0, 0) _ (by exact u2) Tryz.underlying40 (by rfl) (size_nf.trans (by rfl)) ?_; simp only [Act.put, List.setIfInBounds_toArray, List.set_cons_zero, List.set_cons_succ]) | fail)
  rw [fd_build]
  obtain ⟨w3, hw3⟩ : ∃ u, u = (w2.alloc (.cells nf0 40)).setRow w2.heap.size (nfC (n : Int) k l z st) := ⟨_, rfl⟩
  rw [← hw3] at u2 e0 hb13 c1 ⊢
  have hq3 : Q p s w3 := HC.out.keep p s w w3 (fun _ => False) HW.out.2.2 (Turns.of_below hb13) (fun b q => q.elim)
  have HCC := HC.out.call p s w3 N n hp (Nat.lt_of_lt_of_le HW.out.2.1.lt hb13.size) hq3
  rw [← HH.out.1, ← HH.out.2.1, ← HH.out.2.2.1, ← HH.out.2.2.2] at HCC
  have HP3 : Hid (Blk w3 w2.heap.size 40 (nfC (n : Int) k l z st) ∧ Blk w3 w.heap.size 94 #[.pointer (some ⟨x, 0, none⟩), .func (.func fn) #[] caps, .map (some rm)] ∧ Below w.heap.size w w3 ∧ Q p s w3) := ⟨u2, e0, hb13, hq3⟩
  clear u1 u2 hn3 e0 hb13 c1 hq3 hw3
  refine HCC.mono ?_
  rintro e w4 ⟨rfl, s', hq4, ht4, hf4⟩
  have HF4 : Hid (Q (p + 1) s' w4 ∧ Turns (fun z => ft s z ∨ z = rm) w w4 ∧ (∀ b, ft s' b → ft s b ∨ w.heap.size ≤ b)) := ⟨hq4, ((Turns.of_below HP3.out.2.2.1).tr ht4).mono (fun b q => .inl q), fun b q => (hf4 b q).imp id fun h => Nat.le_trans HP3.out.2.2.1.size h⟩
  clear HCC
  cases hgp : g p with
  | false =>
    have HE : Hid (OvR g ft Q rm p 1 I s w (.returned (.tuple #[.bool false, .int .i64 0])) w4) := ⟨s', .inr ⟨0, Nat.one_pos, fun t ht => absurd ht (Nat.not_lt_zero _), hgp, rfl, HF4.out.1⟩, HF4.out.2.1, HF4.out.2.2⟩
    clear hgp hq4 ht4 hf4
    go_wp2_with fail
    go_ret2
    exact HE.out
  | true =>
    have HGP : Hid (g p = true) := hgp
    have nw : ¬ ft s w.heap.size := fun q => Nat.lt_irrefl _ (HC.out.lt p s w _ HW.out.2.2 q)
    have nw2 : ¬ ft s w2.heap.size := fun q => by have h1 := HC.out.lt p s w _ HW.out.2.2 q; have h2 := HLE.out; omega
    have u4 : Blk w4 w2.heap.size 40 (nfC (n : Int) k l z st) := blk_turn HP3.out.1 ht4 nw2
    have e4 : Blk w4 w.heap.size 94 #[.pointer (some ⟨x, 0, none⟩), .func (.func fn) #[] caps, .map (some rm)] := blk_turn HP3.out.2.1 ht4 nw
    have hm4 : MP w4 rm I := (HW.out.2.1.turn (T := fun _ => False) (Turns.of_below HP3.out.2.2.1) (fun q => q)).turn ht4 (HC.out.ap p s w HW.out.2.2).1
    have k0 : w4.cell? ⟨w2.heap.size, 1, none⟩ = some (.int .i64 k) := (u4.cell 1).trans rfl
    have k2 : w4.cell? ⟨w.heap.size, 2, none⟩ = some (.map (some rm)) := (e4.cell 2).trans rfl
    have hlk := hm4.look n
    have HM4 : Hid (MP w4 rm I ∧ Blk w4 w2.heap.size 40 (nfC (n : Int) k l z st) ∧ Blk w4 w.heap.size 94 #[.pointer (some ⟨x, 0, none⟩), .func (.func fn) #[] caps, .map (some rm)]) := ⟨hm4, u4, e4⟩
    have q0 : (w4.alloc (.cells #[] 164)).cell? ⟨w2.heap.size, 1, none⟩ = some (.int .i64 k) := ((u4.below (below_new1 w4 _) u4.lt).cell 1).trans rfl
    have HN4 : Hid (¬ ft s' w.heap.size) := fun q => (hf4 _ q).elim nw (fun h => by have := HP3.out.2.1.lt; omega)
    clear hgp hq4 ht4 hf4 nw nw2 u4 e4 hm4
    have HE : Hid (OvR g ft Q rm p 1 I s w (.returned (.tuple #[.bool true, .int .i64 0])) (w4.alloc (.cells #[] 164))) := ⟨s', .inl ⟨fun t ht => (by rw [show t = 0 by omega]; exact HGP.out), rfl, HC.out.keep (p + 1) s' w4 _ (fun _ => False) HF4.out.1 (Turns.of_below (below_new1 _ _)) (fun b q => q.elim), HM4.out.1.turn (T := fun _ => False) (Turns.of_below (below_new1 _ _)) (fun q => q)⟩, HF4.out.2.1.tr (Turns.of_below (below_new1 _ _)), HF4.out.2.2⟩
    by_cases hi : n ∈ I
    · rw [decide_eq_true hi] at hlk
      clear hi ho
      go_wp2_with fail
      go_ret2
      exact HE.out
    · have hd : F.dr n = false := by
        cases q : F.dr n with
        | false => rfl
        | true => exact absurd ⟨q, hi⟩ ho
      have h1 : k = 1 := by have := HKD.out; rw [hd, if_neg (by decide)] at this; exact this
      rw [decide_eq_false hi] at hlk
      clear hi ho hd
      subst h1
      go_wp2_with fail
      go_ret2
      exact HE.out
end Go.Proofs.YtimjggkdpmgpjaaGreatDoor

namespace Go.Proofs
open Go.Shelf
def Tryz.trimsufA_ren : Go.Shelf.Ren := ⟨fun | 102 => 97 | 209 => 118 | 207 => 95 | n => n, fun | 9 => 9 | 4 => 4 | 3 => 3 | n => n, fun | n => n⟩
theorem Tryz.trimsufA : Go.Proofs.Lays.n102 Tryz.prog Tryz.trimsufA_ren := {
  mixed := by kernel_rfl
  f102 := Tryz.func97.trans (congrArg some (by kernel_rfl))
  f207 := Tryz.func95.trans (congrArg some (by kernel_rfl))
  f209 := Tryz.func118.trans (congrArg some (by kernel_rfl))
  t3 := Tryz.underlying3
  a3 := Tryz.isAgg3
  z3 := Tryz.sizeOf3
  v3 := Tryz.zeroValue3
  t4 := Tryz.underlying4
  a4 := Tryz.isAgg4
  z4 := Tryz.sizeOf4
  v4 := Tryz.zeroValue4
  t9 := Tryz.underlying9
  a9 := Tryz.isAgg9
  z9 := Tryz.sizeOf9
  v9 := Tryz.zeroValue9 }
end Go.Proofs

namespace Go.Proofs.YtimjggkdpmgpjaaGreatDoor
open Go Go.RowKit Go.Nam Go.Shelf
set_option linter.unusedSimpArgs false
set_option linter.unusedVariables false
theorem hs_end (l : List UInt8) : Lib.hasSuffix l [47] = endS l := by
  unfold endS Lib.hasSuffix
  rw [Bool.eq_iff_iff]
  simp only [List.isSuffixOf_iff_suffix, decide_eq_true_eq]
  rw [List.getLast?_eq_some_iff]
  constructor
  · rintro ⟨t, ht⟩
    exact ⟨t, ht.symm⟩
  · rintro ⟨t, ht⟩
    exact ⟨t, ht.symm⟩
theorem trim9 {N : List ByteArray} (h : ∀ x ∈ N, isName x.data.toList = true) : Lib.trimSuffix (frmL N) [47] = accN N := by
  by_cases hN : N = []
  · subst hN
    rfl
  · unfold Lib.trimSuffix
    rw [hs_end, frm_acc hN, end_acc h hN]
    rfl
set_option maxRecDepth 100000 in
theorem fiBeneath_any {N : List ByteArray} (h : ∀ x ∈ N, isName x.data.toList = true) (hN : (accN N).length ≤ 1024) (x : ByteArray) (hx : x.size ≤ 56) (w : World) : Calls Tryz.prog 61 #[.string (bsL (frmL N)), .string x] w fun e w' => e = .returned (.string (bsL (accN (N ++ [x])))) ∧ w' = w := by
  have hz1 : (bsL (frmL N)).size ≤ 1025 := by
    rw [bsL_size]
    by_cases hN2 : N = []
    · subst hN2; decide
    · rw [frm_acc hN2]; omega
  have HT : Calls Tryz.prog 97 #[.string (bsL (frmL N)), .string ⟨#[47]⟩] w fun e w' => e = .returned (.string (bsL (accN N))) ∧ w' = w := by
    refine (Any.strings_TrimSuffix Tryz.trimsufA (bsL (frmL N)) ⟨#[47]⟩ w (by omega)).mono ?_
    rintro e w' ⟨rfl, hw⟩
    refine ⟨?_, hw⟩
    rw [bsL_data]
    show Ending.returned (.string ⟨(Lib.trimSuffix (frmL N) [47]).toArray⟩) = _
    rw [trim9 h]
    rfl
  have HA : Hid (bsL (accN N) ++ ⟨#[47]⟩ ++ x = bsL (accN (N ++ [x]))) := by
    apply ba_ext
    rw [acc_snoc]
    simp [bsL]
  have hs0 : (bsL (accN N)).size ≤ 1024 := by rw [bsL_size]; exact hN
  obtain ⟨P2, hP2⟩ : ∃ P, P = bsL (accN N) := ⟨_, rfl⟩
  obtain ⟨P1, hP1⟩ : ∃ P, P = bsL (frmL N) := ⟨_, rfl⟩
  obtain ⟨P3, hP3⟩ : ∃ P, P = bsL (accN (N ++ [x])) := ⟨_, rfl⟩
  rw [← hP2] at HT HA hs0
  rw [← hP1] at HT ⊢
  rw [← hP3] at HA ⊢
  have hs1 : (P2 ++ (⟨#[47]⟩ : ByteArray)).size = P2.size + 1 := ByteArray.size_append
  clear hP1 hP2 hP3 hz1
  go_enter Tryz.func61, Tryz.ntmps61
  go_wp2_with fail
  refine HT.mono ?_
  rintro e w2 ⟨rfl, hw2⟩
  subst w2
  clear HT
  go_wp2_with fail
  go_ret
  have e := HA.out
  subst e
  exact ⟨rfl, rfl⟩
end Go.Proofs.YtimjggkdpmgpjaaGreatDoor

namespace Go.Proofs.YtimjggkdpmgpjaaGreatDoor
open Go Go.RowKit Go.Nam
set_option linter.unusedSimpArgs false
set_option linter.unusedVariables false
attribute [local go_sem] st_nil st_fun
theorem liR_mem8 {N : Nat → Int} {S : Nat → ByteArray} {n : Nat} {e : Lk} (h : e ∈ liR N S n) : ∃ i, i < n ∧ e = (N i, S i) := by
  simp [liR] at h
  obtain ⟨i, h1, h2⟩ := h
  exact ⟨i, h1, h2.symm⟩
theorem drop_at8 {R : List Lk} {j : Nat} {e : Lk} (h : R[j]? = some e) : R.drop j = e :: R.drop (j + 1) := by
  obtain ⟨h1, h2⟩ := List.getElem?_eq_some_iff.1 h
  rw [List.drop_eq_getElem_cons h1, h2]
/-- a list's cells, as long as its block is let be -/
def RowIs (w6 : World) (lo : Nat) (av : Option Addr) (R : List Lk) : Prop := ∀ j x, R[j]? = some x → ∃ g2, av = some ⟨g2, 0, none⟩ ∧ lo ≤ g2 ∧ g2 < w6.heap.size ∧ ∀ W : World, W.heap[g2]? = w6.heap[g2]? → W.cell? ⟨g2, j * 2, none⟩ = some (.int .i64 x.1) ∧ W.cell? ⟨g2, j * 2 + 1, none⟩ = some (.string x.2)
theorem row_is {w : World} {B e : Nat} {v : Value} {R : List Lk} (h : w.ownsRow B e 2 v R.length (lkR R)) : ∃ av cv, v = .slice av R.length cv ∧ RowIs w B av R := by
  rcases h.2 with ⟨rfl, h0⟩ | ⟨g2, cap, cur, rfl, hB, hg, _⟩
  · have hn : R = [] := by
      apply List.eq_nil_of_length_eq_zero
      first | exact h0 | (rw [lkR_len] at *; omega) | simpa using h0
    subst hn
    exact ⟨none, 0, rfl, fun j x hx => by simp at hx⟩
  · refine ⟨some ⟨g2, 0, none⟩, cap, rfl, fun j x hx => ⟨g2, rfl, hB, (h.lt g2 rfl).2, fun W hW => ?_⟩⟩
    have hc := lkR_at R j x hx
    have hl := (List.getElem?_eq_some_iff.1 hx).1
    have hll := lkR_len R
    have h1 := h.cellAt (j * 2) (by omega)
    have h2 := h.cellAt (j * 2 + 1) (by omega)
    exact ⟨(World.cell?_of_block (w := w) hW).trans (h1.trans hc.1), (World.cell?_of_block (w := w) hW).trans (h2.trans hc.2)⟩
/-- what stands in the loop -/
structure OL {σ : Type} (ft : σ → Nat → Prop) (Q : Nat → σ → World → Prop) (rm B4 : Nat) (w w6 W : World) (s s1 : σ) (cnt : Nat) (J : List Nat) : Prop where
  q : Q cnt s1 W
  mp : MP W rm J
  tn : Turns (fun z => ft s z ∨ z = rm) w W
  hd : ∀ b, ft s1 b → ft s b ∨ w.heap.size ≤ b
  nf : ∀ b, b < w6.heap.size → (b = w.heap.size ∨ B4 ≤ b) → ¬ ft s1 b
  old : ∀ b, b < w6.heap.size → (b = w.heap.size ∨ B4 ≤ b) → W.heap[b]? = w6.heap[b]?
  sz : w6.heap.size ≤ W.heap.size
section
variable {σ : Type} {fn : Nat} {caps : Array Value} {L0 : List Fd} {H : Nat → Hd} {g : Nat → Bool} {ft : σ → Nat → Prop} {Q : Nat → σ → World → Prop} {rm x mf ml mc B4 : Nat} {w w6 W W' : World} {s s1 s2 : σ} {cnt : Nat} {J : List Nat}
theorem OL.below (hC : OC fn caps L0 H g ft Q rm x mf ml mc) (h : OL ft Q rm B4 w w6 W s s1 cnt J) (hb : Below W.heap.size W W') : OL ft Q rm B4 w w6 W' s s1 cnt J :=
  ⟨hC.keep _ _ _ _ (fun _ => False) h.q (Turns.of_below hb) (fun b q => q.elim), h.mp.turn (T := fun _ => False) (Turns.of_below hb) (fun q => q), h.tn.tr (Turns.of_below hb), h.hd, h.nf, fun b h1 h2 => (hb.block b (Nat.lt_of_lt_of_le h1 h.sz)).trans (h.old b h1 h2), Nat.le_trans h.sz hb.size⟩
theorem OL.step (h : OL ft Q rm B4 w w6 W s s1 cnt J) (hrm : rm < w.heap.size) (hB4 : w.heap.size ≤ B4) {cnt2 : Nat} {J2 : List Nat} (hq : Q cnt2 s2 W') (hm : MP W' rm J2) (ht : Turns (fun z => ft s1 z ∨ z = rm) W W') (hf : ∀ b, ft s2 b → ft s1 b ∨ W.heap.size ≤ b) : OL ft Q rm B4 w w6 W' s s2 cnt2 J2 := by
  refine ⟨hq, hm, h.tn.trans ht fun b q => ?_, fun b q => ?_, fun b h1 h2 q => ?_, fun b h1 h2 => ?_, Nat.le_trans h.sz ht.size⟩
  · rcases q with q | q
    · exact (h.hd b q).imp .inl id
    · exact .inl (.inr q)
  · rcases hf b q with q | q
    · exact h.hd b q
    · exact .inr (Nat.le_trans h.tn.size q)
  · rcases hf b q with q | q
    · exact h.nf b h1 h2 q
    · have := h.sz; omega
  · refine (ht.block b (Nat.lt_of_lt_of_le h1 h.sz) fun q => ?_).trans (h.old b h1 h2)
    rcases q with q | q
    · exact h.nf b h1 h2 q
    · subst q; omega
theorem OL.turns (h : OL ft Q rm B4 w w6 W s s1 cnt J) (ht : Turns (fun z => ft s1 z ∨ z = rm) W W') (hf : ∀ b, ft s2 b → ft s1 b ∨ W.heap.size ≤ b) : Turns (fun z => ft s z ∨ z = rm) w W' ∧ ∀ b, ft s2 b → ft s b ∨ w.heap.size ≤ b := by
  refine ⟨h.tn.trans ht fun b q => ?_, fun b q => ?_⟩
  · rcases q with q | q
    · exact (h.hd b q).imp .inl id
    · exact .inl (.inr q)
  · rcases hf b q with q | q
    · exact h.hd b q
    · exact .inr (Nat.le_trans h.tn.size q)
end
theorem size_rd : (Tryz.prog.info? 94).map (·.size) = some 3 := by kernel_rfl
set_option maxRecDepth 100000 in
set_option maxHeartbeats 16000000 in
/-- a directory -/
theorem over_in {σ : Type} {all x mf ml mc rm fn : Nat} {cp : Option Addr} {F : Fo} {H : Nat → Hd} {D : Nat → Nat → Nat → Nat} {caps : Array Value} {g : Nat → Bool} {L0 : List Fd} {ft : σ → Nat → Prop} {Q : Nat → σ → World → Prop} (ef : ∀ args w, (callFunc fn args).run Tryz.prog w = .ok (.enter fn args) w) (HC0 : OC fn caps L0 H g ft Q rm x mf ml mc) (hr : rm ≠ x ∧ rm ≠ mf ∧ rm ≠ ml ∧ rm ≠ mc) {f : Nat} (hK : ∀ d, F.dr d = true → F.K d ≤ 16384 ∧ d ≤ all) (hNm : ∀ d, F.dr d = true → ∀ i, i < F.K d → isName (F.S d i).data.toList = true) (IH0 : (∀ (N : List ByteArray) (n : Nat) (I : List Nat) (p : Nat) (s : σ) (V : World), (∀ y ∈ N, isName y.data.toList = true) → (accN N).length ≤ 1024 → N.length ≤ 32 → 1 ≤ n ∧ n ≤ all → lft F all I ≤ f → Seg9 L0 p (ov F f N n I).1 → BJ V x mf ml mc cp all F H D → MP V rm I → Q p s V → Calls Tryz.prog 30 #[.agg #[.pointer (some ⟨x, 0, none⟩), .func (.func fn) #[] caps, .map (some rm)], .string (bsL (frmL N)), .int .i64 (n : Int)] V (OvR g ft Q rm p (ov F f N n I).1.length (ov F f N n I).2 s V))) (N : List ByteArray) (n : Nat) (I : List Nat) (p : Nat) (s : σ) (hNN : ∀ y ∈ N, isName y.data.toList = true) (hN1 : (accN N).length ≤ 1024) (hN2 : N.length ≤ 32) (hn : 1 ≤ n ∧ n ≤ all) (hi : F.dr n = true ∧ n ∉ I) (hl0 : lft F all I ≤ f + 1) (hsg : Seg9 L0 p (ov F (f + 1) N n I).1) (w : World) (hB : BJ w x mf ml mc cp all F H D) (hM : MP w rm I) (hQ : Q p s w) :
    Calls Tryz.prog 30 #[.agg #[.pointer (some ⟨x, 0, none⟩), .func (.func fn) #[] caps, .map (some rm)], .string (bsL (frmL N)), .int .i64 (n : Int)] w (OvR g ft Q rm p (ov F (f + 1) N n I).1.length (ov F (f + 1) N n I).2 s w) := by
  rw [ov_in hi] at hsg ⊢
  have hp : L0[p]? = some (N, n) := hsg.tail.1
  have HSG : Hid (Seg9 L0 (p + 1) (ovs (ov F f) N (srt (F.N n) (F.S n) (F.K n)) (n :: I)).1) := hsg.tail.2
  have HIH : Hid (∀ (N : List ByteArray) (n : Nat) (I : List Nat) (p : Nat) (s : σ) (V : World), (∀ y ∈ N, isName y.data.toList = true) → (accN N).length ≤ 1024 → N.length ≤ 32 → 1 ≤ n ∧ n ≤ all → lft F all I ≤ f → Seg9 L0 p (ov F f N n I).1 → BJ V x mf ml mc cp all F H D → MP V rm I → Q p s V → Calls Tryz.prog 30 #[.agg #[.pointer (some ⟨x, 0, none⟩), .func (.func fn) #[] caps, .map (some rm)], .string (bsL (frmL N)), .int .i64 (n : Int)] V (OvR g ft Q rm p (ov F f N n I).1.length (ov F f N n I).2 s V)) := IH0
  have HCST : Hid ((∀ d, F.dr d = true → F.K d ≤ 16384 ∧ d ≤ all) ∧ (∀ d, F.dr d = true → ∀ i, i < F.K d → isName (F.S d i).data.toList = true) ∧ (∀ d, F.dr d = true → ∀ p, p < F.K d → 1 ≤ F.N d p ∧ F.N d p ≤ (all : Int))) := ⟨hK, hNm, hB.en⟩
  have HNN : Hid ((∀ y ∈ N, isName y.data.toList = true) ∧ (accN N).length ≤ 1024 ∧ N.length ≤ 32) := ⟨hNN, hN1, hN2⟩
  have HLF : Hid (lft F all (n :: I) ≤ f) := by have := lft_cons hi (hK n hi.1).2; show lft F all (n :: I) ≤ f; omega
  obtain ⟨TL, hTL⟩ : ∃ q, q = (ovs (ov F f) N (srt (F.N n) (F.S n) (F.K n)) (n :: I)).1 := ⟨_, rfl⟩
  obtain ⟨TJ, hTJ⟩ : ∃ q, q = (ovs (ov F f) N (srt (F.N n) (F.S n) (F.K n)) (n :: I)).2 := ⟨_, rfl⟩
  have HTT : Hid (TL = (ovs (ov F f) N (srt (F.N n) (F.S n) (F.K n)) (n :: I)).1 ∧ TJ = (ovs (ov F f) N (srt (F.N n) (F.S n) (F.K n)) (n :: I)).2) := ⟨hTL, hTJ⟩
  rw [← hTL] at HSG
  rw [← hTL, ← hTJ]
  clear hTL hTJ IH0 hK hNm hNN hN1 hN2 hl0 hsg
  obtain ⟨LEN, hLEN⟩ : ∃ q, q = ((N, n) :: TL).length := ⟨_, rfl⟩
  have hpos : 0 < LEN := by rw [hLEN]; simp
  have HLEN : Hid (LEN = 1 + TL.length) := by show LEN = _; rw [hLEN]; simp; omega
  rw [← hLEN]
  clear hLEN
  have HG : Hid (∀ V, Below w.heap.size w V → Calls Tryz.prog 34 #[.pointer (some ⟨x, 0, none⟩), .int .i64 (n : Int)] V fun e w' => e = .returned (.tuple #[.agg (nfC (n : Int) (H n).k (H n).l (H n).s (H n).t), .int .i64 0]) ∧ Below V.heap.size V w') := fun V hV => (hB.below hV).getN n hn
  have HC : Hid (OC fn caps L0 H g ft Q rm x mf ml mc) := HC0
  have HW : Hid (BJ w x mf ml mc cp all F H D ∧ MP w rm I ∧ Q p s w) := ⟨hB, hM, hQ⟩
  have HKD : Hid ((H n).k = if F.dr n = true then 2 else 1) := hB.kd n hn
  have hz := zero_nf
  have hzu := uV_zero
  have b0 : Blk (w.alloc (.cells #[.pointer (some ⟨x, 0, none⟩), .func (.func fn) #[] caps, .map (some rm)] 94)) w.heap.size 94 #[.pointer (some ⟨x, 0, none⟩), .func (.func fn) #[] caps, .map (some rm)] := Blk.new _ _ _
  have hb : Below w.heap.size w (w.alloc (.cells #[.pointer (some ⟨x, 0, none⟩), .func (.func fn) #[] caps, .map (some rm)] 94)) := below_new1 w _
  have c0 := (b0.cell 0).trans rfl
  obtain ⟨k, hk⟩ : ∃ k, k = (H n).k := ⟨_, rfl⟩
  obtain ⟨l, hl⟩ : ∃ k, k = (H n).l := ⟨_, rfl⟩
  obtain ⟨z, hz9⟩ : ∃ k, k = (H n).s := ⟨_, rfl⟩
  obtain ⟨st, hst⟩ : ∃ k, k = (H n).t := ⟨_, rfl⟩
  rw [← hk, ← hl, ← hz9, ← hst] at HG
  rw [← hk] at HKD
  have HH : Hid (k = (H n).k ∧ l = (H n).l ∧ z = (H n).s ∧ st = (H n).t) := ⟨hk, hl, hz9, hst⟩
  clear hk hl hz9 hst HC0 hB hM hQ
  go_enter Tryz.func30, Tryz.ntmps30
  go_wp2_with fail
  generalize (w.alloc (.cells #[.pointer (some ⟨x, 0, none⟩), .func (.func fn) #[] caps, .map (some rm)] 94)) = w1 at *
  refine (HG.out _ hb).mono ?_
  rintro e w2 ⟨rfl, hb2⟩
  have hb12 := hb.trans (hb2.mono hb.size)
  have d0 := b0.below hb2 b0.lt
  have u1 : Blk (w2.alloc (.cells nf0 40)) w2.heap.size 40 nf0 := Blk.new _ _ _
  have u2 : Blk ((w2.alloc (.cells nf0 40)).setRow w2.heap.size (nfC (n : Int) k l z st)) w2.heap.size 40 (nfC (n : Int) k l z st) := u1.set _
  have hn3 : Below w2.heap.size w2 ((w2.alloc (.cells nf0 40)).setRow w2.heap.size (nfC (n : Int) k l z st)) := below_setRow (below_new1 _ _) (Nat.le_refl _) _
  have e0 := d0.below hn3 d0.lt
  have hb13 := hb12.trans (hn3.mono hb12.size)
  have c1 : ((w2.alloc (.cells nf0 40)).setRow w2.heap.size (nfC (n : Int) k l z st)).cell? ⟨w.heap.size, 1, none⟩ = some (.func (.func fn) #[] caps) := (e0.cell 1).trans rfl
  have hs5 : (nfC (n : Int) k l z st).size = 5 := rfl
  have HLE : Hid (w.heap.size < w2.heap.size) := d0.lt
  clear b0 hb c0 hb2 hb12 d0 HG
  go_wp2_with (first | (refine wpList_store_row (by rfl) 40 _ _ (by rfl) (w2.heap.size) (nfC (n : Int) k l z st) (by rfl) (by rfl) 40 (nf0) (by exact u1) (size_nf.trans (by rfl)) (by rfl) (nf_all _ _ _ _ _) ?_; simp only [Act.put, List.setIfInBounds_toArray, List.set_cons_zero, List.set_cons_succ]) | (refine wpList_load_rowg (by rfl) 40 _ (by rfl) (w2.heap.size) (by rfl) 40 (nfC (n : Int) k l z st) (0, 0) _ (by exact u2) Tryz.underlying40 (by rfl) (size_nf.trans (by rfl)) ?_; simp only [Act.put, List.setIfInBounds_toArray, List.set_cons_zero, List.set_cons_succ]) | fail)
  rw [fd_build]
  obtain ⟨w3, hw3⟩ : ∃ u, u = (w2.alloc (.cells nf0 40)).setRow w2.heap.size (nfC (n : Int) k l z st) := ⟨_, rfl⟩
  rw [← hw3] at u2 e0 hb13 c1 ⊢
  have hq3 : Q p s w3 := HC.out.keep p s w w3 (fun _ => False) HW.out.2.2 (Turns.of_below hb13) (fun b q => q.elim)
  have HCC := HC.out.call p s w3 N n hp (Nat.lt_of_lt_of_le HW.out.2.1.lt hb13.size) hq3
  rw [← HH.out.1, ← HH.out.2.1, ← HH.out.2.2.1, ← HH.out.2.2.2] at HCC
  have HP3 : Hid (Blk w3 w2.heap.size 40 (nfC (n : Int) k l z st) ∧ Blk w3 w.heap.size 94 #[.pointer (some ⟨x, 0, none⟩), .func (.func fn) #[] caps, .map (some rm)] ∧ Below w.heap.size w w3 ∧ Q p s w3) := ⟨u2, e0, hb13, hq3⟩
  clear u1 u2 hn3 e0 hb13 c1 hq3 hw3
  refine HCC.mono ?_
  rintro e w4 ⟨rfl, s', hq4, ht4, hf4⟩
  have HF4 : Hid (Q (p + 1) s' w4 ∧ Turns (fun z => ft s z ∨ z = rm) w w4 ∧ (∀ b, ft s' b → ft s b ∨ w.heap.size ≤ b)) := ⟨hq4, ((Turns.of_below HP3.out.2.2.1).tr ht4).mono (fun b q => .inl q), fun b q => (hf4 b q).imp id fun h => Nat.le_trans HP3.out.2.2.1.size h⟩
  clear HCC
  cases hgp : g p with
  | false =>
    have HE : Hid (OvR g ft Q rm p LEN TJ s w (.returned (.tuple #[.bool false, .int .i64 0])) w4) := ⟨s', .inr ⟨0, hpos, fun t ht => absurd ht (Nat.not_lt_zero _), hgp, rfl, HF4.out.1⟩, HF4.out.2.1, HF4.out.2.2⟩
    clear hgp hq4 ht4 hf4
    go_wp2_with fail
    go_ret2
    exact HE.out
  | true =>
    have HGP : Hid (g p = true) := hgp
    have nw : ¬ ft s w.heap.size := fun q => Nat.lt_irrefl _ (HC.out.lt p s w _ HW.out.2.2 q)
    have nw2 : ¬ ft s w2.heap.size := fun q => by have h1 := HC.out.lt p s w _ HW.out.2.2 q; have h2 := HLE.out; omega
    have u4 : Blk w4 w2.heap.size 40 (nfC (n : Int) k l z st) := blk_turn HP3.out.1 ht4 nw2
    have e4 : Blk w4 w.heap.size 94 #[.pointer (some ⟨x, 0, none⟩), .func (.func fn) #[] caps, .map (some rm)] := blk_turn HP3.out.2.1 ht4 nw
    have hm4 : MP w4 rm I := (HW.out.2.1.turn (T := fun _ => False) (Turns.of_below HP3.out.2.2.1) (fun q => q)).turn ht4 (HC.out.ap p s w HW.out.2.2).1
    have k0 : w4.cell? ⟨w2.heap.size, 1, none⟩ = some (.int .i64 k) := (u4.cell 1).trans rfl
    have k2 : w4.cell? ⟨w.heap.size, 2, none⟩ = some (.map (some rm)) := (e4.cell 2).trans rfl
    have hlk := hm4.look n
    have HM4 : Hid (MP w4 rm I ∧ Blk w4 w2.heap.size 40 (nfC (n : Int) k l z st) ∧ Blk w4 w.heap.size 94 #[.pointer (some ⟨x, 0, none⟩), .func (.func fn) #[] caps, .map (some rm)]) := ⟨hm4, u4, e4⟩
    have q0 : (w4.alloc (.cells #[] 164)).cell? ⟨w2.heap.size, 1, none⟩ = some (.int .i64 k) := ((u4.below (below_new1 w4 _) u4.lt).cell 1).trans rfl
    have HN4 : Hid (¬ ft s' w.heap.size) := fun q => (hf4 _ q).elim nw (fun h => by have := HP3.out.2.1.lt; omega)
    clear hgp hq4 ht4 hf4 nw nw2 u4 e4 hm4
    have h2 : k = 2 := by have := HKD.out; rw [hi.1, if_pos rfl] at this; exact this
    rw [decide_eq_false hi.2] at hlk
    obtain ⟨w5, hup, hm5, ht5⟩ := (HM4.out.1.turn (T := fun _ => False) (Turns.of_below (below_new1 w4 (.cells #[] 164))) (fun q => q)).put n
    have e9 := HM4.out.2.2.below (below_new1 w4 (.cells #[] 164)) HM4.out.2.2.lt
    have q2 : (w4.alloc (.cells #[] 164)).cell? ⟨w.heap.size, 2, none⟩ = some (.map (some rm)) := (e9.cell 2).trans rfl
    have hrm : rm < w.heap.size := HW.out.2.1.lt
    have e5 : Blk w5 w.heap.size 94 #[.pointer (some ⟨x, 0, none⟩), .func (.func fn) #[] caps, .map (some rm)] := blk_turn e9 ht5 (by omega)
    have q5 : w5.cell? ⟨w.heap.size, 0, none⟩ = some (.pointer (some ⟨x, 0, none⟩)) := (e5.cell 0).trans rfl
    have t45 : Turns (fun z => z = rm) w4 w5 := (Turns.of_below (below_new1 w4 (.cells #[] 164))).tr ht5
    have hap := HC.out.ap p s w HW.out.2.2
    have tw5 : Turns (fun z => ft s z ∨ z = rm) w w5 := HF4.out.2.1.tr (t45.mono fun b q => .inr q)
    have hj5 : BJ w5 x mf ml mc cp all F H D := HW.out.1.turn tw5 ⟨fun q => q.elim hap.2.1 (fun e => hr.1 e.symm), fun q => q.elim hap.2.2.1 (fun e => hr.2.1 e.symm), fun q => q.elim hap.2.2.2.1 (fun e => hr.2.2.1 e.symm), fun q => q.elim hap.2.2.2.2 (fun e => hr.2.2.2 e.symm)⟩
    have HLS := hj5.im.listD (hj5.di n hi.1)
    have hapx := HC.out.ap (p + 1) s' w4 HF4.out.1
    have HS5 : Hid (MP w5 rm (n :: I) ∧ Blk w5 w.heap.size 94 #[.pointer (some ⟨x, 0, none⟩), .func (.func fn) #[] caps, .map (some rm)] ∧ Turns (fun z => ft s z ∨ z = rm) w w5 ∧ Q (p + 1) s' w5 ∧ w4.heap.size ≤ w5.heap.size ∧ rm < w.heap.size ∧ w.heap.size ≤ w4.heap.size) := ⟨hm5, e5, tw5, HC.out.keep _ _ w4 w5 _ HF4.out.1 t45 (fun b q => by subst q; exact hapx.1), t45.size, hrm, HF4.out.2.1.size⟩
    subst h2
    have HI : Hid (F.dr n = true ∧ n ∉ I) := hi
    clear hi hm5 ht5 e9 e5 t45 hap tw5 hj5 hapx hrm
    go_wp2_with fail
    refine HLS.mono ?_
    rintro e w6 ⟨v, R, rfl, ho6, hs6, hp6, hb6⟩
    obtain ⟨av, cv, rfl, hrow⟩ := row_is ho6
    have hsrt : R = srt (F.N n) (F.S n) (F.K n) := srt_eq hs6 hp6
    have HOL : Hid (OL ft Q rm w4.heap.size w w6 w6 s s' (p + 1) (n :: I)) := by
      have h5 := HS5.out
      have h45 := h5.2.2.2.2.1
      have h56 := hb6.size
      refine ⟨HC.out.keep _ _ w5 w6 (fun _ => False) h5.2.2.2.1 (Turns.of_below hb6) (fun b q => q.elim), h5.1.turn (T := fun _ => False) (Turns.of_below hb6) (fun q => q), h5.2.2.1.tr (Turns.of_below hb6), HF4.out.2.2, fun b h1 h2 q => ?_, fun b h1 h2 => rfl, Nat.le_refl _⟩
      rcases h2 with h2 | h2
      · subst h2
        exact HN4.out q
      · have := HC.out.lt _ _ _ _ HF4.out.1 q
        omega
    have HE6 : Hid (Blk w6 w.heap.size 94 #[.pointer (some ⟨x, 0, none⟩), .func (.func fn) #[] caps, .map (some rm)]) := HS5.out.2.1.below hb6 HS5.out.2.1.lt
    have hrl : R.length = F.K n := by rw [hp6.length_eq, liR_len]
    obtain ⟨KR, hKR⟩ : ∃ q, q = R.length := ⟨_, rfl⟩
    have HR : Hid (R = srt (F.N n) (F.S n) (F.K n) ∧ RowIs w6 w5.heap.size av R ∧ R.Perm (liR (F.N n) (F.S n) (F.K n)) ∧ KR = R.length ∧ KR ≤ 16384) := ⟨hsrt, hrow, hp6, hKR, by rw [hKR, hrl]; exact (HCST.out.1 n HI.out.1).1⟩
    rw [← hKR]
    have kz : KR ≤ 16384 := HR.out.2.2.2.2
    have HLL : Hid (w4.heap.size ≤ w5.heap.size ∧ w5.heap.size ≤ w6.heap.size) := ⟨HS5.out.2.2.2.2.1, hb6.size⟩
    clear ho6 hs6 hp6 hb6 hrow hsrt hrl hKR HLS
    go_wp2_with fail
    go_loopw [69] (fun v69 wr => Hid (∃ (j : Nat) (L : List Fd) (J : List Nat) (s1 : σ), j ≤ KR ∧ v69 = .int .i64 (j : Int) ∧ OL ft Q rm w4.heap.size w w6 wr s s1 (p + 1 + L.length) J ∧ (∀ t, t < 1 + L.length → g (p + t) = true) ∧ L ++ (ovs (ov F f) N (R.drop j) J).1 = TL ∧ (ovs (ov F f) N (R.drop j) J).2 = TJ ∧ lft F all J ≤ f)) (fun v69 _ => KR - (intOf v69).toNat)
    case atStart => exact ⟨0, [], n :: I, s', Nat.zero_le _, rfl, HOL.out, fun t ht => (by rw [show t = 0 by simp at ht; omega]; exact HGP.out), by rw [List.drop_zero, HTT.out.1, ← HR.out.1]; rfl, by rw [List.drop_zero, HTT.out.2, ← HR.out.1], HLF.out⟩
    case round =>
      clear HOL
      obtain ⟨WR, rfl⟩ : ∃ u, u = wr := ⟨_, rfl⟩
      obtain ⟨j, L, J, s1, hj, rfl, hol, hgl, hL, hJ, hf⟩ := Hid.out hrel
      have HT : Hid (OL ft Q rm w4.heap.size w w6 WR s s1 (p + 1 + L.length) J) := hol
      have HQ : Hid ((∀ t, t < 1 + L.length → g (p + t) = true) ∧ L ++ (ovs (ov F f) N (R.drop j) J).1 = TL ∧ (ovs (ov F f) N (R.drop j) J).2 = TJ ∧ lft F all J ≤ f) := ⟨hgl, hL, hJ, hf⟩
      clear hrel hol hgl hL hJ hf
      by_cases hin : j < KR
      · have j1 : (j : Int) < (KR : Int) := by omega
        have j0 : (0 : Int) ≤ (j : Int) := by omega
        obtain ⟨⟨e1, nm⟩, he⟩ : ∃ e, R[j]? = some e := ⟨_, List.getElem?_eq_getElem (by rw [← HR.out.2.2.2.1]; exact hin)⟩
        obtain ⟨m, rfl, hm1, hma, hnm⟩ : ∃ m : Nat, e1 = (m : Int) ∧ 1 ≤ m ∧ m ≤ all ∧ isName nm.data.toList = true := by
          obtain ⟨i, hi, hx⟩ := liR_mem8 (HR.out.2.2.1.mem_iff.1 (List.mem_of_getElem? he))
          have h8 := HCST.out.2.2 n HI.out.1 i hi
          rw [Prod.mk.injEq] at hx
          refine ⟨e1.toNat, ?_, ?_, ?_, ?_⟩
          · rw [hx.1]; omega
          · rw [hx.1]; omega
          · rw [hx.1]; omega
          · rw [hx.2]; exact HCST.out.2.1 n HI.out.1 i hi
        obtain ⟨g2, rfl, hlo, hg2, hcl⟩ := HR.out.2.1 j _ he
        obtain ⟨c0, c1⟩ := hcl WR (HT.out.old g2 hg2 (.inr (Nat.le_trans HLL.out.1 hlo)))
        have HD : Hid (R.drop j = ((m : Int), nm) :: R.drop (j + 1)) := drop_at8 he
        have hns : nm.size ≤ 56 := by rw [Lib.size_eq]; exact (isName_len hnm).2
        have HNM : Hid (isName nm.data.toList = true ∧ 1 ≤ m ∧ m ≤ all ∧ ∀ y ∈ N ++ [nm], isName y.data.toList = true) := ⟨hnm, hm1, hma, fun y hy => by
          rcases List.mem_append.1 hy with h | h
          · exact HNN.out.1 y h
          · rw [List.mem_singleton.1 h]; exact hnm⟩
        have HBN : Hid (∀ V : World, Calls Tryz.prog 61 #[.string (bsL (frmL N)), .string nm] V fun e w' => e = .returned (.string (bsL (accN (N ++ [nm])))) ∧ w' = V) := fun V => fiBeneath_any HNN.out.1 HNN.out.2.1 nm hns V
        have HPN := prs_next HNN.out.1 HNN.out.2.2 hnm
        obtain ⟨P3, hP3⟩ : ∃ q, q = bsL (accN (N ++ [nm])) := ⟨_, rfl⟩
        have HP9 : Hid (P3 = bsL (accN (N ++ [nm]))) := hP3
        have hd3 : P3.data.toList = accN (N ++ [nm]) := by rw [hP3, bsL_data]
        rw [← hP3] at HBN
        have b9 : Blk (WR.alloc (.cells #[.int .i64 (m : Int), .string nm] 54)) WR.heap.size 54 #[.int .i64 (m : Int), .string nm] := Blk.new _ _ _
        have d1 : (WR.alloc (.cells #[.int .i64 (m : Int), .string nm] 54)).cell? ⟨WR.heap.size, 1, none⟩ = some (.string nm) := (b9.cell 1).trans rfl
        have HB9 : Hid (Blk (WR.alloc (.cells #[.int .i64 (m : Int), .string nm] 54)) WR.heap.size 54 #[.int .i64 (m : Int), .string nm]) := b9
        have HO1 : Hid (OL ft Q rm w4.heap.size w w6 (WR.alloc (.cells #[.int .i64 (m : Int), .string nm] 54)) s s1 (p + 1 + L.length) J) := HT.out.below HC.out (below_new1 _ _)
        clear hcl he hnm hm1 hma hns hlo hg2 hP3 b9
        by_cases hok : okN9 N nm
        · have hpr : prs P3.data.toList = (N ++ [nm], false, 0, 0) := by rw [hd3]; exact HPN.1 hok
          have HPS : Hid (∀ V : World, Calls Tryz.prog 28 #[.string P3] V fun e w' => ∃ (a : Option Addr) (k c : Nat), e = .returned (.tuple #[.agg #[.slice a k c, .bool false], .int .i64 0, .int .i64 0]) ∧ Below V.heap.size V w') := fun V => by
            refine (parse_at P3 hpr V).mono ?_
            rintro e w' ⟨a, c, h1, _, h2⟩
            exact ⟨a, _, c, h1, h2⟩
          have HOK : Hid (okN9 N nm) := hok
          clear hok HPN hd3 hpr
          go_wp2_with fail
          refine (HBN.out _).mono ?_
          rintro e W2 ⟨rfl, hW2⟩
          subst W2
          go_wp2_with fail
          refine (HPS.out _).mono ?_
          rintro e W3 ⟨a3, k3, c3, rfl, hb3⟩
          have HO4 : Hid (OL ft Q rm w4.heap.size w w6 (W3.alloc (.cells #[.slice a3 k3 c3, .bool false] 88)) s s1 (p + 1 + L.length) J) := (HO1.out.below HC.out hb3).below HC.out (below_new1 _ _)
          have hap := HC.out.ap p s w HW.out.2.2
          have hj4 : BJ (W3.alloc (.cells #[.slice a3 k3 c3, .bool false] 88)) x mf ml mc cp all F H D := HW.out.1.turn HO4.out.tn ⟨fun q => q.elim hap.2.1 (fun e => hr.1 e.symm), fun q => q.elim hap.2.2.1 (fun e => hr.2.1 e.symm), fun q => q.elim hap.2.2.2.1 (fun e => hr.2.2.1 e.symm), fun q => q.elim hap.2.2.2.2 (fun e => hr.2.2.2 e.symm)⟩
          have d4 : (W3.alloc (.cells #[.slice a3 k3 c3, .bool false] 88)).cell? ⟨WR.heap.size, 0, none⟩ = some (.int .i64 (m : Int)) := (((HB9.out.below hb3 HB9.out.lt).below (below_new1 _ _) (HB9.out.below hb3 HB9.out.lt).lt).cell 0).trans rfl
          have HE4 : Hid (Blk (W3.alloc (.cells #[.slice a3 k3 c3, .bool false] 88)) w.heap.size 94 #[.pointer (some ⟨x, 0, none⟩), .func (.func fn) #[] caps, .map (some rm)]) := (HO4.out.old _ HE6.out.lt (.inl rfl)).trans HE6.out
          have hst := ovs_yes (g := ov F f) (N := N) (e := ((m : Int), nm)) HOK.out (R.drop (j + 1)) J
          rw [show (((m : Int), nm) : Lk).1.toNat = m from Int.toNat_natCast m] at hst
          have hst' : ovs (ov F f) N (((m : Int), nm) :: R.drop (j + 1)) J = ((ov F f (N ++ [nm]) m J).1 ++ (ovs (ov F f) N (R.drop (j + 1)) (ov F f (N ++ [nm]) m J).2).1, (ovs (ov F f) N (R.drop (j + 1)) (ov F f (N ++ [nm]) m J).2).2) := hst
          have hsub := ov_sub F f (N ++ [nm]) m J
          obtain ⟨L2, hL2⟩ : ∃ q, q = (ov F f (N ++ [nm]) m J).1 := ⟨_, rfl⟩
          obtain ⟨J2, hJ2⟩ : ∃ q, q = (ov F f (N ++ [nm]) m J).2 := ⟨_, rfl⟩
          rw [← hL2, ← hJ2] at hst'
          rw [← hJ2] at hsub
          have HQ2 : Hid ((L ++ L2) ++ (ovs (ov F f) N (R.drop (j + 1)) J2).1 = TL ∧ (ovs (ov F f) N (R.drop (j + 1)) J2).2 = TJ ∧ lft F all J2 ≤ f) := by
            obtain ⟨_, q1, q2, q3⟩ := HQ.out
            rw [HD.out, hst'] at q1 q2
            exact ⟨by rw [List.append_assoc]; exact q1, q2, Nat.le_trans (lft_mono hsub) q3⟩
          have hseg : Seg9 L0 (p + 1 + L.length) L2 := by
            have h8 := HSG.out
            rw [← HQ2.out.1, List.append_assoc] at h8
            exact h8.right.left
          rw [hL2] at hseg
          have HCR := HIH.out (N ++ [nm]) m J (p + 1 + L.length) s1 _ HNM.out.2.2.2 HOK.out.2 (by have := HOK.out.1; simp; omega) ⟨HNM.out.2.1, HNM.out.2.2.1⟩ HQ.out.2.2.2 hseg hj4 HO4.out.mp HO4.out.q
          rw [← hL2, ← hJ2, frm_acc (show N ++ [nm] ≠ [] by simp), ← HP9.out] at HCR
          clear hap hj4 hst hst' hsub hL2 hJ2 hseg hb3 HB9 HO1 c0 c1 d1
          go_wp2_with (first | (refine wpList_load_rowg (by rfl) 94 _ (by rfl) (w.heap.size) (by rfl) 94 #[.pointer (some ⟨x, 0, none⟩), .func (.func fn) #[] caps, .map (some rm)] (0, 0) _ (by exact HE4.out) Tryz.underlying94 (by rfl) (size_rd.trans (by rfl)) ?_; simp only [Act.put, List.setIfInBounds_toArray, List.set_cons_zero, List.set_cons_succ]) | fail)
          refine HCR.mono ?_
          rintro e W5 ⟨s2, hres, ht5, hf5⟩
          rcases hres with ⟨hg5, rfl, hq5, hm5⟩ | ⟨q, hq, hgq, hgf, rfl, hq5⟩
          · have HO5 : Hid (OL ft Q rm w4.heap.size w w6 W5 s s2 (p + 1 + L.length + L2.length) J2) := HO4.out.step HS5.out.2.2.2.2.2.1 HS5.out.2.2.2.2.2.2 hq5 hm5 ht5 hf5
            have HG5 : Hid (∀ t, t < 1 + (L ++ L2).length → g (p + t) = true) := fun t ht => by
              rw [List.length_append] at ht
              by_cases c : t < 1 + L.length
              · exact HQ.out.1 t c
              · have := hg5 (t - (1 + L.length)) (by omega)
                rwa [show p + 1 + L.length + (t - (1 + L.length)) = p + t by omega] at this
            clear hg5 hq5 hm5 ht5 hf5 HCR d4
            go_wp2_with fail
            go_roundw
            case rel => exact ⟨j + 1, L ++ L2, J2, s2, by omega, by first | rfl | go_num | simp, by rw [List.length_append, ← Nat.add_assoc]; exact HO5.out, HG5.out, HQ2.out.1, HQ2.out.2.1, HQ2.out.2.2⟩
            case measure => simp [intOf]; omega
          · have HE : Hid (OvR g ft Q rm p LEN TJ s w (.returned (.tuple #[.bool false, .int .i64 0])) W5) := by
              have htt := HO4.out.turns ht5 hf5
              refine ⟨s2, .inr ⟨1 + L.length + q, ?_, fun t ht => ?_, ?_, rfl, ?_⟩, htt.1, htt.2⟩
              · rw [HLEN.out, ← HQ2.out.1]
                simp only [List.length_append]
                omega
              · by_cases c : t < 1 + L.length
                · exact HQ.out.1 t c
                · have := hgq (t - (1 + L.length)) (by omega)
                  rwa [show p + 1 + L.length + (t - (1 + L.length)) = p + t by omega] at this
              · rwa [show p + 1 + L.length + q = p + (1 + L.length + q) by omega] at hgf
              · rwa [show p + 1 + L.length + q + 1 = p + (1 + L.length + q) + 1 by omega] at hq5
            clear hgq hgf hq5 ht5 hf5 HCR d4
            go_wp2_with fail
            go_ret2
            exact HE.out
        · obtain ⟨N2, d2, i2, z2, hpr⟩ : ∃ N2 d2 i2 z2, prs P3.data.toList = (N2, d2, i2, z2) := ⟨_, _, _, _, rfl⟩
          have hz2 : z2 ≠ 0 := by have := HPN.2 hok; rw [← hd3, hpr] at this; exact this
          have HPS : Hid (∀ V : World, Calls Tryz.prog 28 #[.string P3] V fun e w' => ∃ (a : Option Addr) (k c : Nat), e = .returned (.tuple #[.agg #[.slice a k c, .bool d2], .int .i64 (i2 : Int), .int .i64 z2]) ∧ Below V.heap.size V w') := fun V => by
            refine (parse_at P3 hpr V).mono ?_
            rintro e w' ⟨a, c, h1, _, h2⟩
            exact ⟨a, _, c, h1, h2⟩
          have HQ3 : Hid (L ++ (ovs (ov F f) N (R.drop (j + 1)) J).1 = TL ∧ (ovs (ov F f) N (R.drop (j + 1)) J).2 = TJ ∧ lft F all J ≤ f) := by
            obtain ⟨_, q1, q2, q3⟩ := HQ.out
            rw [HD.out, ovs_no (e := ((m : Int), nm)) hok] at q1 q2
            exact ⟨q1, q2, q3⟩
          clear hok HPN hd3 hpr
          go_wp2_with fail
          refine (HBN.out _).mono ?_
          rintro e W2 ⟨rfl, hW2⟩
          subst W2
          go_wp2_with fail
          refine (HPS.out _).mono ?_
          rintro e W3 ⟨a3, k3, c3, rfl, hb3⟩
          have HO4 : Hid (OL ft Q rm w4.heap.size w w6 (W3.alloc (.cells #[.slice a3 k3 c3, .bool d2] 88)) s s1 (p + 1 + L.length) J) := (HO1.out.below HC.out hb3).below HC.out (below_new1 _ _)
          clear hb3 HB9 HO1 c0 c1 d1
          go_wp2_with fail
          go_roundw
          case rel => exact ⟨j + 1, L, J, s1, by omega, by first | rfl | go_num | simp, HO4.out, HQ.out.1, HQ3.out.1, HQ3.out.2.1, HQ3.out.2.2⟩
          case measure => simp [intOf]; omega
      · have i1 : ¬ (j : Int) < (KR : Int) := by omega
        have HE : Hid (OvR g ft Q rm p LEN TJ s w (.returned (.tuple #[.bool true, .int .i64 0])) WR) := by
          obtain ⟨q0, q1, q2, _⟩ := HQ.out
          rw [List.drop_eq_nil_of_le (by rw [← HR.out.2.2.2.1]; omega), ovs_nil] at q1 q2
          rw [List.append_nil] at q1
          have q1' : L = TL := q1
          have q2' : J = TJ := q2
          rw [HLEN.out, ← q1', ← q2']
          exact ⟨s1, .inl ⟨q0, rfl, by rw [← Nat.add_assoc]; exact HT.out.q, HT.out.mp⟩, HT.out.tn, HT.out.hd⟩
        go_wp2_with fail
        go_ret2
        exact HE.out
/-- over, whatever is left -/
theorem over_any {σ : Type} {all x mf ml mc rm fn : Nat} {cp : Option Addr} {F : Fo} {H : Nat → Hd} {D : Nat → Nat → Nat → Nat} {caps : Array Value} {g : Nat → Bool} {L0 : List Fd} {ft : σ → Nat → Prop} {Q : Nat → σ → World → Prop} (ef : ∀ args w, (callFunc fn args).run Tryz.prog w = .ok (.enter fn args) w) (HC0 : OC fn caps L0 H g ft Q rm x mf ml mc) (hr : rm ≠ x ∧ rm ≠ mf ∧ rm ≠ ml ∧ rm ≠ mc) (hK : ∀ d, F.dr d = true → F.K d ≤ 16384 ∧ d ≤ all) (hNm : ∀ d, F.dr d = true → ∀ i, i < F.K d → isName (F.S d i).data.toList = true) : ∀ (f : Nat) (N : List ByteArray) (n : Nat) (I : List Nat) (p : Nat) (s : σ) (V : World), (∀ y ∈ N, isName y.data.toList = true) → (accN N).length ≤ 1024 → N.length ≤ 32 → 1 ≤ n ∧ n ≤ all → lft F all I ≤ f → Seg9 L0 p (ov F f N n I).1 → BJ V x mf ml mc cp all F H D → MP V rm I → Q p s V → Calls Tryz.prog 30 #[.agg #[.pointer (some ⟨x, 0, none⟩), .func (.func fn) #[] caps, .map (some rm)], .string (bsL (frmL N)), .int .i64 (n : Int)] V (OvR g ft Q rm p (ov F f N n I).1.length (ov F f N n I).2 s V) := by
  intro f
  induction f with
  | zero =>
    intro N n I p s V h1 h2 h3 h4 h5 h6 h7 h8 h9
    have hn : ¬ (F.dr n = true ∧ n ∉ I) := fun q => by
      have := lft_cons q (hK n q.1).2
      omega
    rw [ov_out hn] at h6 ⊢
    exact over_out ef HC0 hr N n I p s h4 hn h6.tail.1 V h7 h8 h9
  | succ f ih =>
    intro N n I p s V h1 h2 h3 h4 h5 h6 h7 h8 h9
    by_cases hn : F.dr n = true ∧ n ∉ I
    · exact over_in ef HC0 hr hK hNm ih N n I p s h1 h2 h3 h4 hn h5 h6 V h7 h8 h9
    · rw [ov_out hn] at h6 ⊢
      exact over_out ef HC0 hr N n I p s h4 hn h6.tail.1 V h7 h8 h9
end Go.Proofs.YtimjggkdpmgpjaaGreatDoor
