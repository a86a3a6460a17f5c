/- The digest of all that was written to a hasher: the program's contract. -/
import Derived.Test.YtaoglljkghkbpaaDigNew
import Derived.Test.YtaoglljkghkbpaaDigPress
import Derived.Test.YtaoglljkghkbpaaDigSum
import Derived.Test.YtaoglljkghkbpaaDigPad
import Derived.Deep.RegionLaw
import Derived.Handy
namespace Go.Proofs.Ytaoglljkghkbpaa
open Go.RowKit
set_option linter.unusedSimpArgs false
set_option linter.unusedVariables false

theorem end_lt (p : Nat → Nat) (n many : Nat) (hp : okP p) (hn : n ≤ 31) (j : Nat) : endN p n many j < 256 := by
  unfold endN
  split
  · exact hp j (by omega)
  · split
    · decide
    · split
      · decide
      · exact dig_lt _ _
/-- an array in the midst of a block, loaded -/
theorem wpList_load_va {P : Program} {ops : Array Oper} {rest : List Oper} {op : Oper} {a : Act} {w : World} {Q : Exit → Act → World → Prop} (hgd : op.guard = none) (ty : TypeId) (x : Operand) (ho : op.op = .load ty x)
    (b o n : Nat) (f : Nat → Value) (hx : a.eval x = .pointer (some ⟨b, o, none⟩)) (d : TypeDesc) (hc : w.rangeAt b o ((List.range n).map f))
    (hu : P.underlying ty = some d) (hd : d.isRow = true) (hi : (P.info? ty).map (·.size) = some n)
    (h : wpList P ops Q rest (a.put op.dst (.agg (va n f))) w) : wpList P ops Q (op :: rest) a w :=
  wpList_load_mid hgd ty x ho b o hx _ d hc hu hd (hi.trans (by simp)) h

set_option maxRecDepth 100000 in
set_option maxHeartbeats 4000000 in
theorem hsum_any (g many : Nat) (c p : Nat → Nat) (hc : okC c) (hp : okP p) (hm : many < 9223372036854775808) (w : World) (hg : Blk w g 106 (va 41 (hashV c p many))) :
    Calls Try.prog 46 #[.pointer (some ⟨g, 0, none⟩)] w fun e w' => e = .returned (.agg (va 32 (iv .u8 (sumN (runN c (endN p (many % 32) many) ((many % 32 + 8) / 32 + 1)))))) ∧ Below w.heap.size w w' := by
  have HM : Hid (many < 9223372036854775808) := hm
  clear hm
  obtain ⟨n, hn⟩ : ∃ n : Nat, many % 32 = n := ⟨_, rfl⟩
  have hn31 : n ≤ 31 := by omega
  have e1 : (many : Int) % 32 = (n : Int) := by omega
  rw [hn]
  have HN : Hid (many % 32 = n) := hn
  clear hn
  have n0 : (0 : Int) ≤ (n : Int) := by omega
  have n1 : (n : Int) ≤ 32 := by omega
  have hgl := hg.lt
  have cm : w.cell? ⟨g, 40, none⟩ = some (.int .i64 (many : Int)) := hg.cv (by decide)
  have g1 : Blk (w.alloc (.cells #[.int .u8 0, .int .u8 0, .int .u8 0, .int .u8 0, .int .u8 0, .int .u8 0, .int .u8 0, .int .u8 0, .int .u8 0, .int .u8 0, .int .u8 0, .int .u8 0, .int .u8 0, .int .u8 0, .int .u8 0, .int .u8 0, .int .u8 0, .int .u8 0, .int .u8 0, .int .u8 0, .int .u8 0, .int .u8 0, .int .u8 0, .int .u8 0, .int .u8 0, .int .u8 0, .int .u8 0, .int .u8 0, .int .u8 0, .int .u8 0, .int .u8 0, .int .u8 0] 69)) g 106 (va 41 (hashV c p many)) := hg.alloc _
  have HR : Hid ((w.alloc (.cells #[.int .u8 0, .int .u8 0, .int .u8 0, .int .u8 0, .int .u8 0, .int .u8 0, .int .u8 0, .int .u8 0, .int .u8 0, .int .u8 0, .int .u8 0, .int .u8 0, .int .u8 0, .int .u8 0, .int .u8 0, .int .u8 0, .int .u8 0, .int .u8 0, .int .u8 0, .int .u8 0, .int .u8 0, .int .u8 0, .int .u8 0, .int .u8 0, .int .u8 0, .int .u8 0, .int .u8 0, .int .u8 0, .int .u8 0, .int .u8 0, .int .u8 0, .int .u8 0] 69)).rangeAt g 0 ((List.range 8).map (iv .u32 c))) := fun j v hv => by
    refine g1.range 0 8 (by decide) j v ?_
    rw [← hv]
    rfl
  have hP : Hid (∀ w1 : World, (∀ j, j < n → w1.cell? ⟨g, 8 + j, none⟩ = some (.int .u8 ((p j : Nat) : Int))) → Calls Try.prog 50 #[.slice (some ⟨g, 8, none⟩) n n, .int .i64 (many : Int)] w1 fun e w' => ∃ v, e = .returned v ∧ w'.ownsRow w1.heap.size 5 1 v (padLen n) (bytesL (endN p n many) (padLen n)) ∧ Below w1.heap.size w1 w') := fun w1 h1 => padded_any g 8 n many p hn31 HM.out w1 h1
  go_enter Try.func46, Try.ntmps46
  have n2 : Blk ((w.alloc (.cells #[.int .u8 0, .int .u8 0, .int .u8 0, .int .u8 0, .int .u8 0, .int .u8 0, .int .u8 0, .int .u8 0, .int .u8 0, .int .u8 0, .int .u8 0, .int .u8 0, .int .u8 0, .int .u8 0, .int .u8 0, .int .u8 0, .int .u8 0, .int .u8 0, .int .u8 0, .int .u8 0, .int .u8 0, .int .u8 0, .int .u8 0, .int .u8 0, .int .u8 0, .int .u8 0, .int .u8 0, .int .u8 0, .int .u8 0, .int .u8 0, .int .u8 0, .int .u8 0] 69)).alloc (.cells #[.int .u32 0, .int .u32 0, .int .u32 0, .int .u32 0, .int .u32 0, .int .u32 0, .int .u32 0, .int .u32 0] 102)) (w.heap.size + 1) 102 (va 8 (iv .u32 fun _ => 0)) := by
    have e : (w.alloc (.cells #[.int .u8 0, .int .u8 0, .int .u8 0, .int .u8 0, .int .u8 0, .int .u8 0, .int .u8 0, .int .u8 0, .int .u8 0, .int .u8 0, .int .u8 0, .int .u8 0, .int .u8 0, .int .u8 0, .int .u8 0, .int .u8 0, .int .u8 0, .int .u8 0, .int .u8 0, .int .u8 0, .int .u8 0, .int .u8 0, .int .u8 0, .int .u8 0, .int .u8 0, .int .u8 0, .int .u8 0, .int .u8 0, .int .u8 0, .int .u8 0, .int .u8 0, .int .u8 0] 69)).heap.size = w.heap.size + 1 := by simp
    rw [← e]
    exact Blk.new _ _ _
  have HN2 : Hid (Blk ((w.alloc (.cells #[.int .u8 0, .int .u8 0, .int .u8 0, .int .u8 0, .int .u8 0, .int .u8 0, .int .u8 0, .int .u8 0, .int .u8 0, .int .u8 0, .int .u8 0, .int .u8 0, .int .u8 0, .int .u8 0, .int .u8 0, .int .u8 0, .int .u8 0, .int .u8 0, .int .u8 0, .int .u8 0, .int .u8 0, .int .u8 0, .int .u8 0, .int .u8 0, .int .u8 0, .int .u8 0, .int .u8 0, .int .u8 0, .int .u8 0, .int .u8 0, .int .u8 0, .int .u8 0] 69)).alloc (.cells #[.int .u32 0, .int .u32 0, .int .u32 0, .int .u32 0, .int .u32 0, .int .u32 0, .int .u32 0, .int .u32 0] 102)) (w.heap.size + 1) 102 (va 8 (iv .u32 fun _ => 0))) := n2
  have g3 : Blk (((w.alloc (.cells #[.int .u8 0, .int .u8 0, .int .u8 0, .int .u8 0, .int .u8 0, .int .u8 0, .int .u8 0, .int .u8 0, .int .u8 0, .int .u8 0, .int .u8 0, .int .u8 0, .int .u8 0, .int .u8 0, .int .u8 0, .int .u8 0, .int .u8 0, .int .u8 0, .int .u8 0, .int .u8 0, .int .u8 0, .int .u8 0, .int .u8 0, .int .u8 0, .int .u8 0, .int .u8 0, .int .u8 0, .int .u8 0, .int .u8 0, .int .u8 0, .int .u8 0, .int .u8 0] 69)).alloc (.cells #[.int .u32 0, .int .u32 0, .int .u32 0, .int .u32 0, .int .u32 0, .int .u32 0, .int .u32 0, .int .u32 0] 102)).setRow (w.heap.size + 1) (va 8 (iv .u32 c))) g 106 (va 41 (hashV c p many)) := (g1.alloc _).other _ (by omega)
  have c3 : Blk (((w.alloc (.cells #[.int .u8 0, .int .u8 0, .int .u8 0, .int .u8 0, .int .u8 0, .int .u8 0, .int .u8 0, .int .u8 0, .int .u8 0, .int .u8 0, .int .u8 0, .int .u8 0, .int .u8 0, .int .u8 0, .int .u8 0, .int .u8 0, .int .u8 0, .int .u8 0, .int .u8 0, .int .u8 0, .int .u8 0, .int .u8 0, .int .u8 0, .int .u8 0, .int .u8 0, .int .u8 0, .int .u8 0, .int .u8 0, .int .u8 0, .int .u8 0, .int .u8 0, .int .u8 0] 69)).alloc (.cells #[.int .u32 0, .int .u32 0, .int .u32 0, .int .u32 0, .int .u32 0, .int .u32 0, .int .u32 0, .int .u32 0] 102)).setRow (w.heap.size + 1) (va 8 (iv .u32 c))) (w.heap.size + 1) 102 (va 8 (iv .u32 c)) := n2.set _
  have r3 : Blk (((w.alloc (.cells #[.int .u8 0, .int .u8 0, .int .u8 0, .int .u8 0, .int .u8 0, .int .u8 0, .int .u8 0, .int .u8 0, .int .u8 0, .int .u8 0, .int .u8 0, .int .u8 0, .int .u8 0, .int .u8 0, .int .u8 0, .int .u8 0, .int .u8 0, .int .u8 0, .int .u8 0, .int .u8 0, .int .u8 0, .int .u8 0, .int .u8 0, .int .u8 0, .int .u8 0, .int .u8 0, .int .u8 0, .int .u8 0, .int .u8 0, .int .u8 0, .int .u8 0, .int .u8 0] 69)).alloc (.cells #[.int .u32 0, .int .u32 0, .int .u32 0, .int .u32 0, .int .u32 0, .int .u32 0, .int .u32 0, .int .u32 0] 102)).setRow (w.heap.size + 1) (va 8 (iv .u32 c))) w.heap.size 69 (va 32 (iv .u8 fun _ => 0)) := ((Blk.new w _ _).alloc _).other _ (by omega)
  have b3 : Below w.heap.size w (((w.alloc (.cells #[.int .u8 0, .int .u8 0, .int .u8 0, .int .u8 0, .int .u8 0, .int .u8 0, .int .u8 0, .int .u8 0, .int .u8 0, .int .u8 0, .int .u8 0, .int .u8 0, .int .u8 0, .int .u8 0, .int .u8 0, .int .u8 0, .int .u8 0, .int .u8 0, .int .u8 0, .int .u8 0, .int .u8 0, .int .u8 0, .int .u8 0, .int .u8 0, .int .u8 0, .int .u8 0, .int .u8 0, .int .u8 0, .int .u8 0, .int .u8 0, .int .u8 0, .int .u8 0] 69)).alloc (.cells #[.int .u32 0, .int .u32 0, .int .u32 0, .int .u32 0, .int .u32 0, .int .u32 0, .int .u32 0, .int .u32 0] 102)).setRow (w.heap.size + 1) (va 8 (iv .u32 c))) := below_setRow (((Below.refl _ _).alloc (Nat.le_refl _) _).alloc (by simp) _) (by omega) _
  have cm2 : (((w.alloc (.cells #[.int .u8 0, .int .u8 0, .int .u8 0, .int .u8 0, .int .u8 0, .int .u8 0, .int .u8 0, .int .u8 0, .int .u8 0, .int .u8 0, .int .u8 0, .int .u8 0, .int .u8 0, .int .u8 0, .int .u8 0, .int .u8 0, .int .u8 0, .int .u8 0, .int .u8 0, .int .u8 0, .int .u8 0, .int .u8 0, .int .u8 0, .int .u8 0, .int .u8 0, .int .u8 0, .int .u8 0, .int .u8 0, .int .u8 0, .int .u8 0, .int .u8 0, .int .u8 0] 69)).alloc (.cells #[.int .u32 0, .int .u32 0, .int .u32 0, .int .u32 0, .int .u32 0, .int .u32 0, .int .u32 0, .int .u32 0] 102)).setRow (w.heap.size + 1) (va 8 (iv .u32 c))).cell? ⟨g, 40, none⟩ = some (.int .i64 (many : Int)) := g3.cv (by decide)
  have HALL : Hid (Blk (((w.alloc (.cells #[.int .u8 0, .int .u8 0, .int .u8 0, .int .u8 0, .int .u8 0, .int .u8 0, .int .u8 0, .int .u8 0, .int .u8 0, .int .u8 0, .int .u8 0, .int .u8 0, .int .u8 0, .int .u8 0, .int .u8 0, .int .u8 0, .int .u8 0, .int .u8 0, .int .u8 0, .int .u8 0, .int .u8 0, .int .u8 0, .int .u8 0, .int .u8 0, .int .u8 0, .int .u8 0, .int .u8 0, .int .u8 0, .int .u8 0, .int .u8 0, .int .u8 0, .int .u8 0] 69)).alloc (.cells #[.int .u32 0, .int .u32 0, .int .u32 0, .int .u32 0, .int .u32 0, .int .u32 0, .int .u32 0, .int .u32 0] 102)).setRow (w.heap.size + 1) (va 8 (iv .u32 c))) g 106 (va 41 (hashV c p many)) ∧ Blk (((w.alloc (.cells #[.int .u8 0, .int .u8 0, .int .u8 0, .int .u8 0, .int .u8 0, .int .u8 0, .int .u8 0, .int .u8 0, .int .u8 0, .int .u8 0, .int .u8 0, .int .u8 0, .int .u8 0, .int .u8 0, .int .u8 0, .int .u8 0, .int .u8 0, .int .u8 0, .int .u8 0, .int .u8 0, .int .u8 0, .int .u8 0, .int .u8 0, .int .u8 0, .int .u8 0, .int .u8 0, .int .u8 0, .int .u8 0, .int .u8 0, .int .u8 0, .int .u8 0, .int .u8 0] 69)).alloc (.cells #[.int .u32 0, .int .u32 0, .int .u32 0, .int .u32 0, .int .u32 0, .int .u32 0, .int .u32 0, .int .u32 0] 102)).setRow (w.heap.size + 1) (va 8 (iv .u32 c))) (w.heap.size + 1) 102 (va 8 (iv .u32 c)) ∧ Blk (((w.alloc (.cells #[.int .u8 0, .int .u8 0, .int .u8 0, .int .u8 0, .int .u8 0, .int .u8 0, .int .u8 0, .int .u8 0, .int .u8 0, .int .u8 0, .int .u8 0, .int .u8 0, .int .u8 0, .int .u8 0, .int .u8 0, .int .u8 0, .int .u8 0, .int .u8 0, .int .u8 0, .int .u8 0, .int .u8 0, .int .u8 0, .int .u8 0, .int .u8 0, .int .u8 0, .int .u8 0, .int .u8 0, .int .u8 0, .int .u8 0, .int .u8 0, .int .u8 0, .int .u8 0] 69)).alloc (.cells #[.int .u32 0, .int .u32 0, .int .u32 0, .int .u32 0, .int .u32 0, .int .u32 0, .int .u32 0, .int .u32 0] 102)).setRow (w.heap.size + 1) (va 8 (iv .u32 c))) w.heap.size 69 (va 32 (iv .u8 fun _ => 0)) ∧ Below w.heap.size w (((w.alloc (.cells #[.int .u8 0, .int .u8 0, .int .u8 0, .int .u8 0, .int .u8 0, .int .u8 0, .int .u8 0, .int .u8 0, .int .u8 0, .int .u8 0, .int .u8 0, .int .u8 0, .int .u8 0, .int .u8 0, .int .u8 0, .int .u8 0, .int .u8 0, .int .u8 0, .int .u8 0, .int .u8 0, .int .u8 0, .int .u8 0, .int .u8 0, .int .u8 0, .int .u8 0, .int .u8 0, .int .u8 0, .int .u8 0, .int .u8 0, .int .u8 0, .int .u8 0, .int .u8 0] 69)).alloc (.cells #[.int .u32 0, .int .u32 0, .int .u32 0, .int .u32 0, .int .u32 0, .int .u32 0, .int .u32 0, .int .u32 0] 102)).setRow (w.heap.size + 1) (va 8 (iv .u32 c)))) := ⟨g3, c3, r3, b3⟩
  clear g3 c3 r3 b3 n2 g1
  go_wp2_with (first
    | (refine wpList_load_va (by rfl) 102 _ (by rfl) g 0 8 (iv .u32 c) (by rfl) _ HR.out Try.underlying102 rfl sizeChain ?_; simp only [Act.put, List.setIfInBounds_toArray, List.set_cons_zero, List.set_cons_succ])
    | (refine wpList_store_row (by rfl) 102 _ _ (by rfl) (w.heap.size + 1) (va 8 (iv .u32 c)) (by rfl) (by rfl) 102 _ HN2.out (sizeChain.trans (by rw [va_size])) (by rw [va_size, va_size]) (iv_one _ _ _) ?_; simp only [Act.put, List.setIfInBounds_toArray, List.set_cons_zero, List.set_cons_succ])
    | fail)
  obtain ⟨g3, c3, r3, b3⟩ := HALL.out
  have hz3 : (((w.alloc (.cells #[.int .u8 0, .int .u8 0, .int .u8 0, .int .u8 0, .int .u8 0, .int .u8 0, .int .u8 0, .int .u8 0, .int .u8 0, .int .u8 0, .int .u8 0, .int .u8 0, .int .u8 0, .int .u8 0, .int .u8 0, .int .u8 0, .int .u8 0, .int .u8 0, .int .u8 0, .int .u8 0, .int .u8 0, .int .u8 0, .int .u8 0, .int .u8 0, .int .u8 0, .int .u8 0, .int .u8 0, .int .u8 0, .int .u8 0, .int .u8 0, .int .u8 0, .int .u8 0] 69)).alloc (.cells #[.int .u32 0, .int .u32 0, .int .u32 0, .int .u32 0, .int .u32 0, .int .u32 0, .int .u32 0, .int .u32 0] 102)).setRow (w.heap.size + 1) (va 8 (iv .u32 c))).heap.size = w.heap.size + 2 := by simp [World.setRow]
  clear HALL cm2 cm HR HN2
  generalize (((w.alloc (.cells #[.int .u8 0, .int .u8 0, .int .u8 0, .int .u8 0, .int .u8 0, .int .u8 0, .int .u8 0, .int .u8 0, .int .u8 0, .int .u8 0, .int .u8 0, .int .u8 0, .int .u8 0, .int .u8 0, .int .u8 0, .int .u8 0, .int .u8 0, .int .u8 0, .int .u8 0, .int .u8 0, .int .u8 0, .int .u8 0, .int .u8 0, .int .u8 0, .int .u8 0, .int .u8 0, .int .u8 0, .int .u8 0, .int .u8 0, .int .u8 0, .int .u8 0, .int .u8 0] 69)).alloc (.cells #[.int .u32 0, .int .u32 0, .int .u32 0, .int .u32 0, .int .u32 0, .int .u32 0, .int .u32 0, .int .u32 0] 102)).setRow (w.heap.size + 1) (va 8 (iv .u32 c))) = w3 at *
  refine (hP.out _ (fun j hj => ?_)).mono ?_
  · rw [g3.cv (by omega)]
    unfold hashV
    rw [if_neg (by omega), if_pos (by omega), show 8 + j - 8 = j from by omega]
  rintro e w4 ⟨v, rfl, hown, hb4⟩
  have pg := padLen_ge n
  obtain ⟨g2, cap2, rfl, hg2, hg2'⟩ := own_form hown (by omega)
  have hcap : padLen n ≤ cap2 := by
    rcases hown.2 with ⟨h0, _⟩ | ⟨g', cap', cur, hv, _, _, hcp, _⟩
    · cases h0
    · injection hv with _ _ hv
      omega
  have c4 := c3.below hb4 c3.lt
  have r4 := r3.below hb4 r3.lt
  have b4 : Below w.heap.size w w4 := b3.trans (hb4.mono b3.size)
  have hcell : Hid (∀ j, j < padLen n → w4.cell? ⟨g2, j, none⟩ = some (.int .u8 ((endN p n many j : Nat) : Int))) := fun j hj => by
    rw [hown.cellAt j (by omega), bytesL_at _ _ _ hj]
  obtain ⟨cur, hcur, hcc⟩ : ∃ cur, Blk w4 g2 5 cur ∧ Hid (∀ j, j < padLen n → cur[j]? = some (.int .u8 ((endN p n many j : Nat) : Int))) := by
    rcases hown.2 with ⟨h0, _⟩ | ⟨g', cap', cur, hv, _, hgg, _⟩
    · cases h0
    · have : g2 = g' := by injection hv with hv; injection hv with hv; injection hv
      subst this
      refine ⟨cur, hgg, fun j hj => ?_⟩
      have hB : Blk w4 g2 5 cur := hgg
      rw [← hB.cell]
      exact hcell.out j hj
  have HE : Hid (∀ j, endN p n many j < 256) := end_lt p n many hp hn31
  have hS : Hid (∀ (d : Nat → Nat) (w : World), Calls Try.prog 51 #[.agg (va 8 (iv .u32 d))] w fun e w' => e = .returned (.agg (va 32 (iv .u8 (sumN d)))) ∧ Below w.heap.size w w') := fun d w => sum_any d w
  have hgne : w.heap.size + 2 ≤ g2 := by omega
  generalize HEQ : endN p n many = E at *
  have HEE : Hid (endN p n many = E) := HEQ
  clear HEQ
  obtain ⟨N, hN⟩ : ∃ N : Nat, N = (n + 8) / 32 + 1 := ⟨_, rfl⟩
  have hpl : padLen n = 32 * N := by rw [hN]; rfl
  have hNle : N ≤ 2 := by omega
  rw [hpl] at hcap hcc
  have HPL : Hid (padLen n = 32 * N) := hpl
  have HNN : Hid ((n + 8) / 32 + 1 = N) := hN.symm
  rw [hpl]
  have l4 := r4.lt
  clear c3 r3 b3 g3 hb4 hP hg hcell hown hpl hN pg
  go_wp2_with fail
  go_loopw [6] (fun v wr => ∃ (i : Nat) (ao : Option Addr) (cp : Nat), i ≤ N ∧ v = .slice ao (32 * (N - i)) cp ∧ (i < N → ao = some ⟨g2, 32 * i, none⟩ ∧ 32 * (N - i) ≤ cp) ∧ Blk wr (w.heap.size + 1) 102 (va 8 (iv .u32 (runN c E i))) ∧ Blk wr w.heap.size 69 (va 32 (iv .u8 fun _ => 0)) ∧ Blk wr g2 5 cur ∧ Below w.heap.size w wr) (fun v _ => match v with | .slice _ k _ => k | _ => 0)
  case atStart => exact ⟨0, some ⟨g2, 0, none⟩, cap2, Nat.zero_le _, rfl, fun _ => ⟨rfl, hcap⟩, c4, r4, hcur, b4⟩
  case round =>
    clear c4 r4 hcur b4 l4
    obtain ⟨i, ao, cp, hi, rfl, hao, c4, r4, hcur, b4⟩ := hrel
    by_cases hlt : i < N
    · obtain ⟨rfl, hcp⟩ := hao hlt
      have hK := run_ok hc HE.out i
      have hPr : Hid (∀ w : World, Calls Try.prog 49 #[.agg (va 8 (iv .u32 (runN c E i))), .agg (va 32 (iv .u8 fun j => E (32 * i + j)))] w fun e w' => e = .returned (.agg (va 8 (iv .u32 (runN c E (i + 1))))) ∧ Below w.heap.size w w') := fun w => press_any (runN c E i) (fun j => E (32 * i + j)) hK (fun j _ => HE.out _) w
      generalize HK : runN c E (i + 1) = k1 at *
      have HK1 : Hid (runN c E (i + 1) = k1) := HK
      clear HK
      generalize runN c E i = k0 at *
      obtain ⟨L, hL⟩ : ∃ L : Nat, L = 32 * (N - i) := ⟨_, rfl⟩
      rw [← hL] at hcp ⊢
      have HL : Hid (L = 32 * (N - i)) := hL
      have hL1 : 32 ≤ L := by omega
      have t1 : decide ((0 : Int) < (L : Int)) = true := decide_eq_true (by omega)
      have t2 : (32 : Int) ≤ (L : Int) := by omega
      clear hL hao
      have n0 : Blk (wr.alloc (.cells #[.int .u8 0, .int .u8 0, .int .u8 0, .int .u8 0, .int .u8 0, .int .u8 0, .int .u8 0, .int .u8 0, .int .u8 0, .int .u8 0, .int .u8 0, .int .u8 0, .int .u8 0, .int .u8 0, .int .u8 0, .int .u8 0, .int .u8 0, .int .u8 0, .int .u8 0, .int .u8 0, .int .u8 0, .int .u8 0, .int .u8 0, .int .u8 0, .int .u8 0, .int .u8 0, .int .u8 0, .int .u8 0, .int .u8 0, .int .u8 0, .int .u8 0, .int .u8 0] 104)) wr.heap.size 104 (va 32 (iv .u8 fun _ => 0)) := Blk.new _ _ _
      have HC : Hid (∀ j v, (bytesL (fun j => E (32 * i + j)) 32)[j]? = some v → (wr.alloc (.cells #[.int .u8 0, .int .u8 0, .int .u8 0, .int .u8 0, .int .u8 0, .int .u8 0, .int .u8 0, .int .u8 0, .int .u8 0, .int .u8 0, .int .u8 0, .int .u8 0, .int .u8 0, .int .u8 0, .int .u8 0, .int .u8 0, .int .u8 0, .int .u8 0, .int .u8 0, .int .u8 0, .int .u8 0, .int .u8 0, .int .u8 0, .int .u8 0, .int .u8 0, .int .u8 0, .int .u8 0, .int .u8 0, .int .u8 0, .int .u8 0, .int .u8 0, .int .u8 0] 104)).cell? ((⟨g2, 32 * i, none⟩ : Addr).add j) = some v) := fun j v hv => by
        have hj : j < 32 := by
          have := (List.getElem?_eq_some_iff.1 hv).1
          rwa [bytesL_length] at this
        rw [Addr.add_mid, (hcur.alloc _).cell, hcc.out _ (by omega), ← hv, bytesL_at _ _ _ hj]
      have HW0 : Hid ((wr.alloc (.cells #[.int .u8 0, .int .u8 0, .int .u8 0, .int .u8 0, .int .u8 0, .int .u8 0, .int .u8 0, .int .u8 0, .int .u8 0, .int .u8 0, .int .u8 0, .int .u8 0, .int .u8 0, .int .u8 0, .int .u8 0, .int .u8 0, .int .u8 0, .int .u8 0, .int .u8 0, .int .u8 0, .int .u8 0, .int .u8 0, .int .u8 0, .int .u8 0, .int .u8 0, .int .u8 0, .int .u8 0, .int .u8 0, .int .u8 0, .int .u8 0, .int .u8 0, .int .u8 0] 104)).heap[wr.heap.size]? = some (.cells [Value.int .u8 0, .int .u8 0, .int .u8 0, .int .u8 0, .int .u8 0, .int .u8 0, .int .u8 0, .int .u8 0, .int .u8 0, .int .u8 0, .int .u8 0, .int .u8 0, .int .u8 0, .int .u8 0, .int .u8 0, .int .u8 0, .int .u8 0, .int .u8 0, .int .u8 0, .int .u8 0, .int .u8 0, .int .u8 0, .int .u8 0, .int .u8 0, .int .u8 0, .int .u8 0, .int .u8 0, .int .u8 0, .int .u8 0, .int .u8 0, .int .u8 0, .int .u8 0].toArray 104 (0, 0))) := n0
      have HSP : Hid ((splice [Value.int .u8 0, .int .u8 0, .int .u8 0, .int .u8 0, .int .u8 0, .int .u8 0, .int .u8 0, .int .u8 0, .int .u8 0, .int .u8 0, .int .u8 0, .int .u8 0, .int .u8 0, .int .u8 0, .int .u8 0, .int .u8 0, .int .u8 0, .int .u8 0, .int .u8 0, .int .u8 0, .int .u8 0, .int .u8 0, .int .u8 0, .int .u8 0, .int .u8 0, .int .u8 0, .int .u8 0, .int .u8 0, .int .u8 0, .int .u8 0, .int .u8 0, .int .u8 0] 0 (bytesL (fun j => E (32 * i + j)) 32)).toArray = va 32 (iv .u8 fun j => E (32 * i + j))) := by
        show _ = _
        have e := splice_va 32 0 32 (iv .u8 fun _ => 0) (fun j => Value.int .u8 ((E (32 * i + j) : Nat) : Int)) (by omega)
        refine Eq.trans ?_ (e.trans ?_)
        · rfl
        · refine va_congr fun j hj => ?_
          show overF _ 0 32 _ j = _
          unfold overF
          rw [if_pos (by omega)]
          rfl
      have HLEN : Hid ((bytesL (fun j => E (32 * i + j)) 32).length = Nat.min L 32) := by
        show _ = _
        rw [bytesL_length, show Nat.min L 32 = 32 from Nat.min_eq_right hL1]
      have HFIT : Hid (0 + (bytesL (fun j => E (32 * i + j)) 32).length ≤ [Value.int .u8 0, .int .u8 0, .int .u8 0, .int .u8 0, .int .u8 0, .int .u8 0, .int .u8 0, .int .u8 0, .int .u8 0, .int .u8 0, .int .u8 0, .int .u8 0, .int .u8 0, .int .u8 0, .int .u8 0, .int .u8 0, .int .u8 0, .int .u8 0, .int .u8 0, .int .u8 0, .int .u8 0, .int .u8 0, .int .u8 0, .int .u8 0, .int .u8 0, .int .u8 0, .int .u8 0, .int .u8 0, .int .u8 0, .int .u8 0, .int .u8 0, .int .u8 0].length) := by
        show _ ≤ _
        rw [bytesL_length]
        decide
      clear n0
      go_wp2_with (first
        | (refine wpList_copy_splice rfl _ _ 78 78 rfl 5 Try.underlying78 sizeByte (some ⟨wr.heap.size, 0, none⟩) (some ⟨g2, 32 * i, none⟩) 32 32 L cp (by rfl) (by rfl) wr.heap.size 0 [Value.int .u8 0, .int .u8 0, .int .u8 0, .int .u8 0, .int .u8 0, .int .u8 0, .int .u8 0, .int .u8 0, .int .u8 0, .int .u8 0, .int .u8 0, .int .u8 0, .int .u8 0, .int .u8 0, .int .u8 0, .int .u8 0, .int .u8 0, .int .u8 0, .int .u8 0, .int .u8 0, .int .u8 0, .int .u8 0, .int .u8 0, .int .u8 0, .int .u8 0, .int .u8 0, .int .u8 0, .int .u8 0, .int .u8 0, .int .u8 0, .int .u8 0, .int .u8 0] 104 HW0.out (bytesL (fun j => E (32 * i + j)) 32) HLEN.out (fun _ => ⟨rfl, _, rfl, HC.out⟩) HFIT.out (mem_iv_one _ _ _) wr.heap.size wr ((Below.refl _ _).alloc (Nat.le_refl _) _) (Nat.le_refl _) ?_)
        | go_in)
      intro w5 hg5 hb5
      have q5 : Blk w5 wr.heap.size 104 (va 32 (iv .u8 fun j => E (32 * i + j))) := by
        have := hg5.out
        rw [HSP.out] at this
        exact this
      have c5 := c4.below hb5 c4.lt
      have r5 := r4.below hb5 r4.lt
      have cur5 := hcur.below hb5 hcur.lt
      have b5 : Below w.heap.size w w5 := b4.trans (hb5.mono b4.size)
      have lr := r4.lt
      clear hg5 hb5 HSP HLEN HFIT HC HW0 c4 r4 hcur b4
      go_wp2_with (first
        | (refine wpList_load_row (by rfl) 102 _ (by rfl) (w.heap.size + 1) (by rfl) 102 (va 8 (iv .u32 k0)) (0, 0) _ c5 Try.underlying102 (by rfl) (sizeChain.trans (by rw [va_size])) ?_; simp only [Act.put, List.setIfInBounds_toArray, List.set_cons_zero, List.set_cons_succ])
        | (refine wpList_load_row (by rfl) 104 _ (by rfl) wr.heap.size (by rfl) 104 (va 32 (iv .u8 fun j => E (32 * i + j))) (0, 0) _ q5 Try.underlying104 (by rfl) (sizePiece.trans (by rw [va_size])) ?_; simp only [Act.put, List.setIfInBounds_toArray, List.set_cons_zero, List.set_cons_succ])
        | fail)
      refine (hPr.out _).mono ?_
      rintro e w6 ⟨rfl, hb6⟩
      have c6 := c5.below hb6 c5.lt
      have r6 := r5.below hb6 r5.lt
      have cur6 := cur5.below hb6 cur5.lt
      have b6 : Below w.heap.size w w6 := b5.trans (hb6.mono b5.size)
      clear c5 r5 cur5 b5 q5 hb6 hPr
      have c7 := c6.set (va 8 (iv .u32 k1))
      have r7 := r6.other (va 8 (iv .u32 k1)) (g := w.heap.size + 1) (by omega)
      have cur7 := cur6.other (va 8 (iv .u32 k1)) (g := w.heap.size + 1) (by omega)
      have b7 : Below w.heap.size w (w6.setRow (w.heap.size + 1) (va 8 (iv .u32 k1))) := below_setRow b6 (by omega) _
      have HJ : Hid (Blk (w6.setRow (w.heap.size + 1) (va 8 (iv .u32 k1))) (w.heap.size + 1) 102 (va 8 (iv .u32 k1)) ∧ Blk (w6.setRow (w.heap.size + 1) (va 8 (iv .u32 k1))) w.heap.size 69 (va 32 (iv .u8 fun _ => 0)) ∧ Blk (w6.setRow (w.heap.size + 1) (va 8 (iv .u32 k1))) g2 5 cur ∧ Below w.heap.size w (w6.setRow (w.heap.size + 1) (va 8 (iv .u32 k1)))) := ⟨c7, r7, cur7, b7⟩
      clear c7 r7 cur7 b7 r6 cur6 b6
      go_wp2_with (first
        | (refine wpList_store_row (by rfl) 102 _ _ (by rfl) (w.heap.size + 1) (va 8 (iv .u32 k1)) (by rfl) (by rfl) 102 _ c6 (sizeChain.trans (by rw [va_size])) (by rw [va_size, va_size]) (iv_one _ _ _) ?_; simp only [Act.put, List.setIfInBounds_toArray, List.set_cons_zero, List.set_cons_succ])
        | fail)
      have hLL := HL.out
      refine ⟨⟨i + 1, (if cp = 32 then some ⟨g2, 32 * i, none⟩ else some ⟨g2, 32 * i + 32, none⟩), cp - 32, by omega, ?_, ?_, ?_, HJ.out.2.1, HJ.out.2.2.1, HJ.out.2.2.2⟩, ?_⟩
      · rw [show L - 32 = 32 * (N - (i + 1)) from by omega]
      · intro h2
        rw [if_neg (by omega)]
        exact ⟨rfl, by omega⟩
      · rw [HK1.out]
        exact HJ.out.1
      · show L - 32 < L
        omega
    · obtain rfl : i = N := by omega
      rw [Nat.sub_self, Nat.mul_zero]
      have hSS := hS.out (runN c E i)
      have HSS : Hid (∀ w : World, Calls Try.prog 51 #[.agg (va 8 (iv .u32 (runN c E i)))] w fun e w' => e = .returned (.agg (va 32 (iv .u8 (sumN (runN c E i))))) ∧ Below w.heap.size w w') := hSS
      have HFIN : Hid (sumN (runN c (endN p n many) ((n + 8) / 32 + 1)) = sumN (runN c E i)) := by
        show _ = _
        rw [HNN.out, HEE.out]
      clear HNN HEE
      clear hS hSS hao hcur
      generalize runN c E i = k0 at *
      generalize sumN k0 = sm at *
      go_wp2_with (first
        | (refine wpList_load_row (by rfl) 102 _ (by rfl) (w.heap.size + 1) (by rfl) 102 (va 8 (iv .u32 k0)) (0, 0) _ c4 Try.underlying102 (by rfl) (sizeChain.trans (by rw [va_size])) ?_; simp only [Act.put, List.setIfInBounds_toArray, List.set_cons_zero, List.set_cons_succ])
        | fail)
      refine (HSS.out _).mono ?_
      rintro e w6 ⟨rfl, hb6⟩
      have r6 := r4.below hb6 r4.lt
      have b6 : Below w.heap.size w w6 := b4.trans (hb6.mono b4.size)
      clear c4 r4 b4 hb6 HSS
      go_wp2_with (first
        | (refine wpList_store_row (by rfl) 69 _ _ (by rfl) w.heap.size (va 32 (iv .u8 sm)) (by rfl) (by rfl) 69 _ r6 (sizeSum.trans (by rw [va_size])) (by rw [va_size, va_size]) (iv_one _ _ _) ?_; simp only [Act.put, List.setIfInBounds_toArray, List.set_cons_zero, List.set_cons_succ])
        | fail)
      try simp only [Exit.inBlock, Exit.then]
      refine bodyPost_ret (results_cell_row Try.results46 _ _ w.heap.size 69 (va 32 (iv .u8 sm)) (0, 0) _ rfl (r6.set _) Try.underlying69 rfl (sizeSum.trans (by rw [va_size]))) rfl ?_
      rw [HFIN.out]
      exact ⟨rfl, below_setRow b6 (Nat.le_refl _) _⟩
end Go.Proofs.Ytaoglljkghkbpaa
