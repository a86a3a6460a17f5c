/- Patches laid into a block: the program's contract of Apply. -/
import Derived.Test.YtaoglljkghkbpabBlkLay
import Derived.Test.YtaoglljkghkbpabBlkArg
import Derived.Test.YtaoglljkghkbpabBlkRef
import Derived.Handy
namespace Go.Proofs.Ytaoglljkghkbpab
open Go.RowKit
set_option linter.unusedSimpArgs false
set_option linter.unusedVariables false

/-- the slice at a of n patches, told by their places and texts -/
def IsPats (w : World) (a : Option Addr) (n : Nat) (P : Nat → Int) (T : Nat → ByteArray) : Prop :=
  ∀ i, i < n → ∃ b o, a = some ⟨b, o, none⟩ ∧ b < w.heap.size ∧ w.cell? ⟨b, o + i * 2, none⟩ = some (.int .i64 (P i)) ∧ w.cell? ⟨b, o + i * 2 + 1, none⟩ = some (.string (T i)) ∧ (-9223372036854775808 ≤ P i ∧ P i ≤ 9223372036854775807) ∧ (T i).size ≤ 140737488351232
theorem IsPats.below {w w' : World} {a : Option Addr} {n : Nat} {P : Nat → Int} {T : Nat → ByteArray} (h : IsPats w a n P T) (hb : Below w.heap.size w w') : IsPats w' a n P T := fun i hi => by
  obtain ⟨b, o, e, h1, h2, h3, h4⟩ := h i hi
  have hblk := hb.block b h1
  refine ⟨b, o, e, Nat.lt_of_lt_of_le h1 hb.size, ?_, ?_, h4⟩
  · rw [← h2]
    simp [World.cell?, hblk]
  · rw [← h3]
    simp [World.cell?, hblk]
/-- a block with the first k patches laid -/
def foldP (f : Nat → Nat) (P : Nat → Int) (T : Nat → ByteArray) : Nat → Nat → Nat
  | 0 => f
  | k + 1 => putAt (foldP f P T k) (P k).toNat (T k).size (tbyte (T k))
theorem results_row3 {P : Program} {fn : Func} {p u v : Tmp} {ty : TypeId} (h : fn.results = #[.cell p ty, .tmp u, .tmp v]) (tmps : Array Value) (w : World) (g : Nat) (t : TypeId) (cs : Array Value) (fr : Nat × Nat) (d : TypeDesc)
    (hp : tmps.getD p undef = .pointer (some ⟨g, 0, none⟩)) (hg : w.heap[g]? = some (.cells cs t fr))
    (hu : P.underlying ty = some d) (hd : (match d with | .struct _ | .array _ _ => true | _ => false) = true) (hi : (P.info? ty).map (·.size) = some cs.size) :
    (results fn tmps).run P w = .ok (.tuple #[.agg cs, tmps.getD u undef, tmps.getD v undef]) w := by
  have hp' : tmps[p]?.getD undef = .pointer (some ⟨g, 0, none⟩) := by simpa using hp
  simp [results, h, hp', asAddr, run_loadVar_row w g t ty cs fr d hg hu hd hi]

set_option maxRecDepth 100000 in
set_option maxHeartbeats 8000000 in
theorem apply_any (f : Nat → Nat) (a0 : Option Addr) (n cap : Nat) (hn : n ≤ 9223372036854775806) (P : Nat → Int) (T : Nat → ByteArray) (w : World) (h : IsPats w a0 n P T) :
    Calls Try.prog 7 #[bkV f, .slice a0 n cap] w fun e w' => ((∃ k : Nat, k < n ∧ (∀ i, i < k → Fit (P i) ((T i).size : Int)) ∧ ¬ Fit (P k) ((T k).size : Int) ∧ e = .returned (.tuple #[bkV fun _ => 0, .int .i64 (k : Int), .int .i64 40])) ∨ ((∀ i, i < n → Fit (P i) ((T i).size : Int)) ∧ e = .returned (.tuple #[bkV (foldP f P T n), .int .i64 0, .int .i64 0]))) ∧ Below w.heap.size w w' := by
  have hI : Hid (IsPats w a0 n P T) := h
  clear h
  have hz := zero_bk
  unfold bkV
  have b0 : Blk ((w.alloc (Obj.cells (va 256 (iv IntKind.u8 f)) 23)).alloc (Obj.cells (va 256 (iv IntKind.u8 fun x => 0)) 23)) w.heap.size 23 (va 256 (iv .u8 f)) := (Blk.new _ _ _).alloc _
  have b1 := Blk.new1 w (Obj.cells (va 256 (iv IntKind.u8 f)) 23) 23 (va 256 (iv IntKind.u8 fun x => 0))
  have hb := below_new2 w (Obj.cells (va 256 (iv IntKind.u8 f)) 23) (Obj.cells (va 256 (iv IntKind.u8 fun x => 0)) 23)
  go_enter Try.func7, Try.ntmps7
  go_wp2_with fail
  generalize (w.alloc (Obj.cells (va 256 (iv IntKind.u8 f)) 23)).alloc (Obj.cells (va 256 (iv IntKind.u8 fun x => 0)) 23) = W at *
  go_loopw [13] (fun i wr => ∃ k : Nat, k ≤ n ∧ i = .int .i64 k ∧ (∀ i, i < k → Fit (P i) ((T i).size : Int)) ∧ Blk wr w.heap.size 23 (va 256 (iv .u8 (foldP f P T k))) ∧ Blk wr (w.heap.size + 1) 23 (va 256 (iv .u8 fun _ => 0)) ∧ Below w.heap.size w wr) (fun i _ => n - (intOf i).toNat)
  case atStart => exact ⟨0, Nat.zero_le _, rfl, fun i hi => absurd hi (by omega), b0, b1, hb⟩
  case round =>
    clear b0 b1 hb
    obtain ⟨k, hk, rfl, hfit, b0, b1, hb⟩ := hrel
    have HFIT : Hid (∀ i, i < k → Fit (P i) ((T i).size : Int)) := hfit
    clear hfit
    by_cases hlt : k < n
    · obtain ⟨b, o, rfl, hbl, hc0, hc1, hp, hs⟩ := hI.out k hlt
      have hblk := hb.block b hbl
      have c0 : wr.cell? ⟨b, o + k * 2, none⟩ = some (.int .i64 (P k)) := by
        rw [← hc0]
        simp [World.cell?, hblk]
      have c1 : wr.cell? ⟨b, o + k * 2 + 1, none⟩ = some (.string (T k)) := by
        rw [← hc1]
        simp [World.cell?, hblk]
      have k0 : (0 : Int) ≤ (k : Int) := by omega
      have k1 : (k : Int) < (n : Int) := by omega
      have HB : Hid (b < wr.heap.size) := Nat.lt_of_lt_of_le hbl hb.size
      have HF : Hid (foldP f P T (k + 1) = putAt (foldP f P T k) (P k).toNat (T k).size (tbyte (T k))) := rfl
      have HP : Hid ((-9223372036854775808 ≤ P k ∧ P k ≤ 9223372036854775807) ∧ (T k).size ≤ 140737488351232) := ⟨hp, hs⟩
      clear hc0 hc1 hblk hp hs
      generalize foldP f P T k = F at *
      have d0 := b0.alloc (Obj.cells #[Value.int IntKind.i64 (P k), Value.string (T k)] 28)
      have d1 := b1.alloc (Obj.cells #[Value.int IntKind.i64 (P k), Value.string (T k)] 28)
      have hbd := hb.alloc hb.size (Obj.cells #[Value.int IntKind.i64 (P k), Value.string (T k)] 28)
      have lt1 := b1.lt
      obtain ⟨G, e0, hL0, hcase⟩ : ∃ (G : Nat → Nat) (e0 : Int), (∀ w : World, Calls Try.prog 15 #[.agg (va 256 (iv .u8 F)), .int .i64 (P k), .string (T k)] w fun e w' => e = .returned (.tuple #[.agg (va 256 (iv .u8 G)), .int .i64 e0]) ∧ Below w.heap.size w w') ∧
          ((e0 = 40 ∧ ¬ Fit (P k) ((T k).size : Int)) ∨ (e0 = 0 ∧ Fit (P k) ((T k).size : Int) ∧ G = putAt F (P k).toNat (T k).size (tbyte (T k)))) := by
        obtain ⟨hp, hs⟩ := HP.out
        by_cases hft : Fit (P k) ((T k).size : Int)
        · have hft' := hft
          obtain ⟨h1, h2, h3⟩ := hft'
          have := lay_fit F (P k).toNat (T k) (by omega)
          rw [show (((P k).toNat : Nat) : Int) = P k by omega] at this
          exact ⟨_, 0, this, .inr ⟨rfl, hft, rfl⟩⟩
        · exact ⟨_, 40, lay_bad F (P k) hp (T k) (by omega) hft, .inl ⟨rfl, hft⟩⟩
      have hL : Hid (∀ w : World, Calls Try.prog 15 #[.agg (va 256 (iv .u8 F)), .int .i64 (P k), .string (T k)] w fun e w' => e = .returned (.tuple #[.agg (va 256 (iv .u8 G)), .int .i64 e0]) ∧ Below w.heap.size w w') := hL0
      have HC : Hid ((e0 = 40 ∧ ¬ Fit (P k) ((T k).size : Int)) ∨ (e0 = 0 ∧ Fit (P k) ((T k).size : Int) ∧ G = putAt F (P k).toNat (T k).size (tbyte (T k)))) := hcase
      clear hL0 hcase HP b0 b1 hb
      go_wp2_with (first
        | (refine wpList_load_row (by rfl) 23 _ (by rfl) (w.heap.size) (by rfl) 23 (va 256 (iv .u8 F)) (0, 0) _ d0 Try.underlying23 (by rfl) (sizeBk.trans (by rw [va_size])) ?_; simp only [Act.put, List.setIfInBounds_toArray, List.set_cons_zero, List.set_cons_succ])
        | fail)
      generalize wr.alloc (Obj.cells #[Value.int IntKind.i64 (P k), Value.string (T k)] 28) = w1 at *
      refine (hL.out _).mono ?_
      rintro e w2 ⟨rfl, hh⟩
      have e0' := d0.below hh d0.lt
      have e1' := d1.below hh d1.lt
      have hb2 : Below w.heap.size w w2 := hbd.trans (hh.mono hbd.size)
      have lt2 := e1'.lt
      clear d0 d1 hbd hh hL c0 c1
      have n2 := Blk.new w2 23 (va 256 (iv .u8 fun _ => 0))
      have gp := n2.set (va 256 (iv .u8 G))
      have f0 := (e0'.alloc (Obj.cells (va 256 (iv IntKind.u8 fun _ => 0)) 23)).other (g := w2.heap.size) (va 256 (iv .u8 G)) (Nat.ne_of_lt e0'.lt)
      have f1 := (e1'.alloc (Obj.cells (va 256 (iv IntKind.u8 fun _ => 0)) 23)).other (g := w2.heap.size) (va 256 (iv .u8 G)) (Nat.ne_of_lt e1'.lt)
      have hb3 : Below w.heap.size w ((w2.alloc (Obj.cells (va 256 (iv IntKind.u8 fun _ => 0)) 23)).setRow w2.heap.size (va 256 (iv .u8 G))) := below_setRow (hb2.alloc hb2.size _) hb2.size _
      rcases HC.out with ⟨rfl, hbad⟩ | ⟨rfl, hft, rfl⟩
      · go_wp2_with (first
          | (refine wpList_store_row (by rfl) 23 _ _ (by rfl) (w2.heap.size) (va 256 (iv .u8 G)) (by rfl) (by rfl) 23 _ n2 (sizeBk.trans (by rw [va_size])) (by simp only [va_size]) (iv_one _ _ _) ?_; simp only [Act.put, List.setIfInBounds_toArray, List.set_cons_zero, List.set_cons_succ])
          | (refine wpList_store_row (by rfl) 23 _ _ (by rfl) (w.heap.size + 1) (va 256 (iv .u8 fun _ => 0)) (by rfl) (by rfl) 23 _ f1 (sizeBk.trans (by rw [va_size])) (by simp only [va_size]) (iv_one _ _ _) ?_; simp only [Act.put, List.setIfInBounds_toArray, List.set_cons_zero, List.set_cons_succ])
          | fail)
        try simp only [Exit.inBlock, Exit.then]
        refine bodyPost_ret (results_row3 Try.results7 _ _ (w.heap.size + 1) 23 (va 256 (iv .u8 fun _ => 0)) (0, 0) _ rfl (f1.set _) Try.underlying23 rfl (sizeBk.trans (by rw [va_size]))) rfl ?_
        exact ⟨.inl ⟨k, hlt, HFIT.out, hbad, rfl⟩, below_setRow hb3 (Nat.le_succ _) _⟩
      · obtain ⟨G, hG⟩ : ∃ G, G = putAt F (P k).toNat (T k).size (tbyte (T k)) := ⟨_, rfl⟩
        rw [← hG] at HF gp f0 f1 hb3 ⊢
        have HFT : Hid (Fit (P k) ((T k).size : Int)) := hft
        clear hG hft HC
        go_wp2_with (first
          | (refine wpList_store_row (by rfl) 23 _ _ (by rfl) (w2.heap.size) (va 256 (iv .u8 G)) (by rfl) (by rfl) 23 _ n2 (sizeBk.trans (by rw [va_size])) (by simp only [va_size]) (iv_one _ _ _) ?_; simp only [Act.put, List.setIfInBounds_toArray, List.set_cons_zero, List.set_cons_succ])
          | (refine wpList_load_row (by rfl) 23 _ (by rfl) (w2.heap.size) (by rfl) 23 (va 256 (iv .u8 G)) (0, 0) _ gp Try.underlying23 (by rfl) (sizeBk.trans (by rw [va_size])) ?_; simp only [Act.put, List.setIfInBounds_toArray, List.set_cons_zero, List.set_cons_succ])
          | (refine wpList_store_row (by rfl) 23 _ _ (by rfl) (w.heap.size) (va 256 (iv .u8 G)) (by rfl) (by rfl) 23 _ f0 (sizeBk.trans (by rw [va_size])) (by simp only [va_size]) (iv_one _ _ _) ?_; simp only [Act.put, List.setIfInBounds_toArray, List.set_cons_zero, List.set_cons_succ])
          | fail)
        refine ⟨⟨k + 1, by omega, by simp, fun i hi => ?_, ?_, f1.other _ (by omega), below_setRow hb3 (Nat.le_refl _) _⟩, ?_⟩
        · by_cases hik : i = k
          · rw [hik]
            exact HFT.out
          · exact HFIT.out i (by omega)
        · rw [HF.out]
          exact f0.set _
        · simp [intOf]
          omega
    · obtain rfl : k = n := by omega
      go_wp2_with (first
        | (refine wpList_load_row (by rfl) 23 _ (by rfl) (w.heap.size) (by rfl) 23 (va 256 (iv .u8 (foldP f P T k))) (0, 0) _ b0 Try.underlying23 (by rfl) (sizeBk.trans (by rw [va_size])) ?_; simp only [Act.put, List.setIfInBounds_toArray, List.set_cons_zero, List.set_cons_succ])
        | (refine wpList_store_row (by rfl) 23 _ _ (by rfl) (w.heap.size + 1) (va 256 (iv .u8 (foldP f P T k))) (by rfl) (by rfl) 23 _ b1 (sizeBk.trans (by rw [va_size])) (by simp only [va_size]) (iv_one _ _ _) ?_; simp only [Act.put, List.setIfInBounds_toArray, List.set_cons_zero, List.set_cons_succ])
        | fail)
      try simp only [Exit.inBlock, Exit.then]
      refine bodyPost_ret (results_row3 Try.results7 _ _ (w.heap.size + 1) 23 (va 256 (iv .u8 (foldP f P T k))) (0, 0) _ rfl (b1.set _) Try.underlying23 rfl (sizeBk.trans (by rw [va_size]))) rfl ?_
      exact ⟨.inr ⟨HFIT.out, rfl⟩, below_setRow hb (Nat.le_succ _) _⟩
end Go.Proofs.Ytaoglljkghkbpab
