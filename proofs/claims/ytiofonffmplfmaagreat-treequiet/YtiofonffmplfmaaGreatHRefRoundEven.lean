/- An even round in the document's answer: what it returns, if the quarters return what they do; nothing below the top of the heap is changed. -/
import Derived.Test.YtiofonffmplfmaaGreatHDigText
import Derived.Test.YtiofonffmplfmaaGreatHDigPress
import Derived.Test.YtiofonffmplfmaaGreatHSegsIf
import Derived.Deep.RegionLaw
import Derived.Handy
import Derived.Test.YtiofonffmplfmaaGreatHMapKit
import Derived.Carry
import Derived.ArgAppend
import Derived.Lib.ConvBytes

namespace Go.Proofs.YtiofonffmplfmaaGreat
open Go.RowKit
set_option linter.unusedSimpArgs false
set_option linter.unusedVariables false

theorem end_lt (p : Nat → Nat) (n many : Nat) (hp : okP p) (hn : n ≤ 31) (j : Nat) : endN p n many j < 256 := by
  unfold endN
  split
  · exact hp j (by omega)
  · split
    · decide
    · split
      · decide
      · exact dig_lt _ _
/-- an array in the midst of a block, loaded -/
theorem wpList_load_va {P : Program} {ops : Array Oper} {rest : List Oper} {op : Oper} {a : Act} {w : World} {Q : Exit → Act → World → Prop} (hgd : op.guard = none) (ty : TypeId) (x : Operand) (ho : op.op = .load ty x)
    (b o n : Nat) (f : Nat → Value) (hx : a.eval x = .pointer (some ⟨b, o, none⟩)) (d : TypeDesc) (hc : w.rangeAt b o ((List.range n).map f))
    (hu : P.underlying ty = some d) (hd : d.isRow = true) (hi : (P.info? ty).map (·.size) = some n)
    (h : wpList P ops Q rest (a.put op.dst (.agg (va n f))) w) : wpList P ops Q (op :: rest) a w :=
  wpList_load_mid hgd ty x ho b o hx _ d hc hu hd (hi.trans (by simp)) h

set_option maxRecDepth 100000 in
set_option maxHeartbeats 4000000 in
theorem hsum_any (g many : Nat) (c p : Nat → Nat) (hc : okC c) (hp : okP p) (hm : many < 9223372036854775808) (w : World) (hg : Blk w g 241 (va 41 (hashV c p many))) :
    Calls Tryz.prog 116 #[.pointer (some ⟨g, 0, none⟩)] w fun e w' => e = .returned (.agg (va 32 (iv .u8 (sumN (runN c (endN p (many % 32) many) ((many % 32 + 8) / 32 + 1)))))) ∧ Below w.heap.size w w' := by
  have HM : Hid (many < 9223372036854775808) := hm
  clear hm
  obtain ⟨n, hn⟩ : ∃ n : Nat, many % 32 = n := ⟨_, rfl⟩
  have hn31 : n ≤ 31 := by omega
  have e1 : (many : Int) % 32 = (n : Int) := by omega
  rw [hn]
  have HN : Hid (many % 32 = n) := hn
  clear hn
  have n0 : (0 : Int) ≤ (n : Int) := by omega
  have n1 : (n : Int) ≤ 32 := by omega
  have hgl := hg.lt
  have cm : w.cell? ⟨g, 40, none⟩ = some (.int .i64 (many : Int)) := hg.cv (by decide)
  have g1 : Blk (w.alloc (.cells #[.int .u8 0, .int .u8 0, .int .u8 0, .int .u8 0, .int .u8 0, .int .u8 0, .int .u8 0, .int .u8 0, .int .u8 0, .int .u8 0, .int .u8 0, .int .u8 0, .int .u8 0, .int .u8 0, .int .u8 0, .int .u8 0, .int .u8 0, .int .u8 0, .int .u8 0, .int .u8 0, .int .u8 0, .int .u8 0, .int .u8 0, .int .u8 0, .int .u8 0, .int .u8 0, .int .u8 0, .int .u8 0, .int .u8 0, .int .u8 0, .int .u8 0, .int .u8 0] 41)) g 241 (va 41 (hashV c p many)) := hg.alloc _
  have HR : Hid ((w.alloc (.cells #[.int .u8 0, .int .u8 0, .int .u8 0, .int .u8 0, .int .u8 0, .int .u8 0, .int .u8 0, .int .u8 0, .int .u8 0, .int .u8 0, .int .u8 0, .int .u8 0, .int .u8 0, .int .u8 0, .int .u8 0, .int .u8 0, .int .u8 0, .int .u8 0, .int .u8 0, .int .u8 0, .int .u8 0, .int .u8 0, .int .u8 0, .int .u8 0, .int .u8 0, .int .u8 0, .int .u8 0, .int .u8 0, .int .u8 0, .int .u8 0, .int .u8 0, .int .u8 0] 41)).rangeAt g 0 ((List.range 8).map (iv .u32 c))) := fun j v hv => by
    refine g1.range 0 8 (by decide) j v ?_
    rw [← hv]
    rfl
  have hP : Hid (∀ w1 : World, (∀ j, j < n → w1.cell? ⟨g, 8 + j, none⟩ = some (.int .u8 ((p j : Nat) : Int))) → Calls Tryz.prog 119 #[.slice (some ⟨g, 8, none⟩) n n, .int .i64 (many : Int)] w1 fun e w' => ∃ v, e = .returned v ∧ w'.ownsRow w1.heap.size 5 1 v (padLen n) (bytesL (endN p n many) (padLen n)) ∧ Below w1.heap.size w1 w') := fun w1 h1 => padded_any g 8 n many p hn31 HM.out w1 h1
  go_enter Tryz.func116, Tryz.ntmps116
  have n2 : Blk ((w.alloc (.cells #[.int .u8 0, .int .u8 0, .int .u8 0, .int .u8 0, .int .u8 0, .int .u8 0, .int .u8 0, .int .u8 0, .int .u8 0, .int .u8 0, .int .u8 0, .int .u8 0, .int .u8 0, .int .u8 0, .int .u8 0, .int .u8 0, .int .u8 0, .int .u8 0, .int .u8 0, .int .u8 0, .int .u8 0, .int .u8 0, .int .u8 0, .int .u8 0, .int .u8 0, .int .u8 0, .int .u8 0, .int .u8 0, .int .u8 0, .int .u8 0, .int .u8 0, .int .u8 0] 41)).alloc (.cells #[.int .u32 0, .int .u32 0, .int .u32 0, .int .u32 0, .int .u32 0, .int .u32 0, .int .u32 0, .int .u32 0] 237)) (w.heap.size + 1) 237 (va 8 (iv .u32 fun _ => 0)) := by
    have e : (w.alloc (.cells #[.int .u8 0, .int .u8 0, .int .u8 0, .int .u8 0, .int .u8 0, .int .u8 0, .int .u8 0, .int .u8 0, .int .u8 0, .int .u8 0, .int .u8 0, .int .u8 0, .int .u8 0, .int .u8 0, .int .u8 0, .int .u8 0, .int .u8 0, .int .u8 0, .int .u8 0, .int .u8 0, .int .u8 0, .int .u8 0, .int .u8 0, .int .u8 0, .int .u8 0, .int .u8 0, .int .u8 0, .int .u8 0, .int .u8 0, .int .u8 0, .int .u8 0, .int .u8 0] 41)).heap.size = w.heap.size + 1 := by simp
    rw [← e]
    exact Blk.new _ _ _
  have HN2 : Hid (Blk ((w.alloc (.cells #[.int .u8 0, .int .u8 0, .int .u8 0, .int .u8 0, .int .u8 0, .int .u8 0, .int .u8 0, .int .u8 0, .int .u8 0, .int .u8 0, .int .u8 0, .int .u8 0, .int .u8 0, .int .u8 0, .int .u8 0, .int .u8 0, .int .u8 0, .int .u8 0, .int .u8 0, .int .u8 0, .int .u8 0, .int .u8 0, .int .u8 0, .int .u8 0, .int .u8 0, .int .u8 0, .int .u8 0, .int .u8 0, .int .u8 0, .int .u8 0, .int .u8 0, .int .u8 0] 41)).alloc (.cells #[.int .u32 0, .int .u32 0, .int .u32 0, .int .u32 0, .int .u32 0, .int .u32 0, .int .u32 0, .int .u32 0] 237)) (w.heap.size + 1) 237 (va 8 (iv .u32 fun _ => 0))) := n2
  have g3 : Blk (((w.alloc (.cells #[.int .u8 0, .int .u8 0, .int .u8 0, .int .u8 0, .int .u8 0, .int .u8 0, .int .u8 0, .int .u8 0, .int .u8 0, .int .u8 0, .int .u8 0, .int .u8 0, .int .u8 0, .int .u8 0, .int .u8 0, .int .u8 0, .int .u8 0, .int .u8 0, .int .u8 0, .int .u8 0, .int .u8 0, .int .u8 0, .int .u8 0, .int .u8 0, .int .u8 0, .int .u8 0, .int .u8 0, .int .u8 0, .int .u8 0, .int .u8 0, .int .u8 0, .int .u8 0] 41)).alloc (.cells #[.int .u32 0, .int .u32 0, .int .u32 0, .int .u32 0, .int .u32 0, .int .u32 0, .int .u32 0, .int .u32 0] 237)).setRow (w.heap.size + 1) (va 8 (iv .u32 c))) g 241 (va 41 (hashV c p many)) := (g1.alloc _).other _ (by omega)
  have c3 : Blk (((w.alloc (.cells #[.int .u8 0, .int .u8 0, .int .u8 0, .int .u8 0, .int .u8 0, .int .u8 0, .int .u8 0, .int .u8 0, .int .u8 0, .int .u8 0, .int .u8 0, .int .u8 0, .int .u8 0, .int .u8 0, .int .u8 0, .int .u8 0, .int .u8 0, .int .u8 0, .int .u8 0, .int .u8 0, .int .u8 0, .int .u8 0, .int .u8 0, .int .u8 0, .int .u8 0, .int .u8 0, .int .u8 0, .int .u8 0, .int .u8 0, .int .u8 0, .int .u8 0, .int .u8 0] 41)).alloc (.cells #[.int .u32 0, .int .u32 0, .int .u32 0, .int .u32 0, .int .u32 0, .int .u32 0, .int .u32 0, .int .u32 0] 237)).setRow (w.heap.size + 1) (va 8 (iv .u32 c))) (w.heap.size + 1) 237 (va 8 (iv .u32 c)) := n2.set _
  have r3 : Blk (((w.alloc (.cells #[.int .u8 0, .int .u8 0, .int .u8 0, .int .u8 0, .int .u8 0, .int .u8 0, .int .u8 0, .int .u8 0, .int .u8 0, .int .u8 0, .int .u8 0, .int .u8 0, .int .u8 0, .int .u8 0, .int .u8 0, .int .u8 0, .int .u8 0, .int .u8 0, .int .u8 0, .int .u8 0, .int .u8 0, .int .u8 0, .int .u8 0, .int .u8 0, .int .u8 0, .int .u8 0, .int .u8 0, .int .u8 0, .int .u8 0, .int .u8 0, .int .u8 0, .int .u8 0] 41)).alloc (.cells #[.int .u32 0, .int .u32 0, .int .u32 0, .int .u32 0, .int .u32 0, .int .u32 0, .int .u32 0, .int .u32 0] 237)).setRow (w.heap.size + 1) (va 8 (iv .u32 c))) w.heap.size 41 (va 32 (iv .u8 fun _ => 0)) := ((Blk.new w _ _).alloc _).other _ (by omega)
  have b3 : Below w.heap.size w (((w.alloc (.cells #[.int .u8 0, .int .u8 0, .int .u8 0, .int .u8 0, .int .u8 0, .int .u8 0, .int .u8 0, .int .u8 0, .int .u8 0, .int .u8 0, .int .u8 0, .int .u8 0, .int .u8 0, .int .u8 0, .int .u8 0, .int .u8 0, .int .u8 0, .int .u8 0, .int .u8 0, .int .u8 0, .int .u8 0, .int .u8 0, .int .u8 0, .int .u8 0, .int .u8 0, .int .u8 0, .int .u8 0, .int .u8 0, .int .u8 0, .int .u8 0, .int .u8 0, .int .u8 0] 41)).alloc (.cells #[.int .u32 0, .int .u32 0, .int .u32 0, .int .u32 0, .int .u32 0, .int .u32 0, .int .u32 0, .int .u32 0] 237)).setRow (w.heap.size + 1) (va 8 (iv .u32 c))) := below_setRow (((Below.refl _ _).alloc (Nat.le_refl _) _).alloc (by simp) _) (by omega) _
  have cm2 : (((w.alloc (.cells #[.int .u8 0, .int .u8 0, .int .u8 0, .int .u8 0, .int .u8 0, .int .u8 0, .int .u8 0, .int .u8 0, .int .u8 0, .int .u8 0, .int .u8 0, .int .u8 0, .int .u8 0, .int .u8 0, .int .u8 0, .int .u8 0, .int .u8 0, .int .u8 0, .int .u8 0, .int .u8 0, .int .u8 0, .int .u8 0, .int .u8 0, .int .u8 0, .int .u8 0, .int .u8 0, .int .u8 0, .int .u8 0, .int .u8 0, .int .u8 0, .int .u8 0, .int .u8 0] 41)).alloc (.cells #[.int .u32 0, .int .u32 0, .int .u32 0, .int .u32 0, .int .u32 0, .int .u32 0, .int .u32 0, .int .u32 0] 237)).setRow (w.heap.size + 1) (va 8 (iv .u32 c))).cell? ⟨g, 40, none⟩ = some (.int .i64 (many : Int)) := g3.cv (by decide)
  have HALL : Hid (Blk (((w.alloc (.cells #[.int .u8 0, .int .u8 0, .int .u8 0, .int .u8 0, .int .u8 0, .int .u8 0, .int .u8 0, .int .u8 0, .int .u8 0, .int .u8 0, .int .u8 0, .int .u8 0, .int .u8 0, .int .u8 0, .int .u8 0, .int .u8 0, .int .u8 0, .int .u8 0, .int .u8 0, .int .u8 0, .int .u8 0, .int .u8 0, .int .u8 0, .int .u8 0, .int .u8 0, .int .u8 0, .int .u8 0, .int .u8 0, .int .u8 0, .int .u8 0, .int .u8 0, .int .u8 0] 41)).alloc (.cells #[.int .u32 0, .int .u32 0, .int .u32 0, .int .u32 0, .int .u32 0, .int .u32 0, .int .u32 0, .int .u32 0] 237)).setRow (w.heap.size + 1) (va 8 (iv .u32 c))) g 241 (va 41 (hashV c p many)) ∧ Blk (((w.alloc (.cells #[.int .u8 0, .int .u8 0, .int .u8 0, .int .u8 0, .int .u8 0, .int .u8 0, .int .u8 0, .int .u8 0, .int .u8 0, .int .u8 0, .int .u8 0, .int .u8 0, .int .u8 0, .int .u8 0, .int .u8 0, .int .u8 0, .int .u8 0, .int .u8 0, .int .u8 0, .int .u8 0, .int .u8 0, .int .u8 0, .int .u8 0, .int .u8 0, .int .u8 0, .int .u8 0, .int .u8 0, .int .u8 0, .int .u8 0, .int .u8 0, .int .u8 0, .int .u8 0] 41)).alloc (.cells #[.int .u32 0, .int .u32 0, .int .u32 0, .int .u32 0, .int .u32 0, .int .u32 0, .int .u32 0, .int .u32 0] 237)).setRow (w.heap.size + 1) (va 8 (iv .u32 c))) (w.heap.size + 1) 237 (va 8 (iv .u32 c)) ∧ Blk (((w.alloc (.cells #[.int .u8 0, .int .u8 0, .int .u8 0, .int .u8 0, .int .u8 0, .int .u8 0, .int .u8 0, .int .u8 0, .int .u8 0, .int .u8 0, .int .u8 0, .int .u8 0, .int .u8 0, .int .u8 0, .int .u8 0, .int .u8 0, .int .u8 0, .int .u8 0, .int .u8 0, .int .u8 0, .int .u8 0, .int .u8 0, .int .u8 0, .int .u8 0, .int .u8 0, .int .u8 0, .int .u8 0, .int .u8 0, .int .u8 0, .int .u8 0, .int .u8 0, .int .u8 0] 41)).alloc (.cells #[.int .u32 0, .int .u32 0, .int .u32 0, .int .u32 0, .int .u32 0, .int .u32 0, .int .u32 0, .int .u32 0] 237)).setRow (w.heap.size + 1) (va 8 (iv .u32 c))) w.heap.size 41 (va 32 (iv .u8 fun _ => 0)) ∧ Below w.heap.size w (((w.alloc (.cells #[.int .u8 0, .int .u8 0, .int .u8 0, .int .u8 0, .int .u8 0, .int .u8 0, .int .u8 0, .int .u8 0, .int .u8 0, .int .u8 0, .int .u8 0, .int .u8 0, .int .u8 0, .int .u8 0, .int .u8 0, .int .u8 0, .int .u8 0, .int .u8 0, .int .u8 0, .int .u8 0, .int .u8 0, .int .u8 0, .int .u8 0, .int .u8 0, .int .u8 0, .int .u8 0, .int .u8 0, .int .u8 0, .int .u8 0, .int .u8 0, .int .u8 0, .int .u8 0] 41)).alloc (.cells #[.int .u32 0, .int .u32 0, .int .u32 0, .int .u32 0, .int .u32 0, .int .u32 0, .int .u32 0, .int .u32 0] 237)).setRow (w.heap.size + 1) (va 8 (iv .u32 c)))) := ⟨g3, c3, r3, b3⟩
  clear g3 c3 r3 b3 n2 g1
  go_wp2_with (first
    | (refine wpList_load_va (by rfl) 237 _ (by rfl) g 0 8 (iv .u32 c) (by rfl) _ HR.out Tryz.underlying237 rfl sizeChain ?_; simp only [Act.put, List.setIfInBounds_toArray, List.set_cons_zero, List.set_cons_succ])
    | (refine wpList_store_row (by rfl) 237 _ _ (by rfl) (w.heap.size + 1) (va 8 (iv .u32 c)) (by rfl) (by rfl) 237 _ HN2.out (sizeChain.trans (by rw [va_size])) (by rw [va_size, va_size]) (iv_one _ _ _) ?_; simp only [Act.put, List.setIfInBounds_toArray, List.set_cons_zero, List.set_cons_succ])
    | fail)
  obtain ⟨g3, c3, r3, b3⟩ := HALL.out
  have hz3 : (((w.alloc (.cells #[.int .u8 0, .int .u8 0, .int .u8 0, .int .u8 0, .int .u8 0, .int .u8 0, .int .u8 0, .int .u8 0, .int .u8 0, .int .u8 0, .int .u8 0, .int .u8 0, .int .u8 0, .int .u8 0, .int .u8 0, .int .u8 0, .int .u8 0, .int .u8 0, .int .u8 0, .int .u8 0, .int .u8 0, .int .u8 0, .int .u8 0, .int .u8 0, .int .u8 0, .int .u8 0, .int .u8 0, .int .u8 0, .int .u8 0, .int .u8 0, .int .u8 0, .int .u8 0] 41)).alloc (.cells #[.int .u32 0, .int .u32 0, .int .u32 0, .int .u32 0, .int .u32 0, .int .u32 0, .int .u32 0, .int .u32 0] 237)).setRow (w.heap.size + 1) (va 8 (iv .u32 c))).heap.size = w.heap.size + 2 := by simp [World.setRow]
  clear HALL cm2 cm HR HN2
  generalize (((w.alloc (.cells #[.int .u8 0, .int .u8 0, .int .u8 0, .int .u8 0, .int .u8 0, .int .u8 0, .int .u8 0, .int .u8 0, .int .u8 0, .int .u8 0, .int .u8 0, .int .u8 0, .int .u8 0, .int .u8 0, .int .u8 0, .int .u8 0, .int .u8 0, .int .u8 0, .int .u8 0, .int .u8 0, .int .u8 0, .int .u8 0, .int .u8 0, .int .u8 0, .int .u8 0, .int .u8 0, .int .u8 0, .int .u8 0, .int .u8 0, .int .u8 0, .int .u8 0, .int .u8 0] 41)).alloc (.cells #[.int .u32 0, .int .u32 0, .int .u32 0, .int .u32 0, .int .u32 0, .int .u32 0, .int .u32 0, .int .u32 0] 237)).setRow (w.heap.size + 1) (va 8 (iv .u32 c))) = w3 at *
  refine (hP.out _ (fun j hj => ?_)).mono ?_
  · rw [g3.cv (by omega)]
    unfold hashV
    rw [if_neg (by omega), if_pos (by omega), show 8 + j - 8 = j from by omega]
  rintro e w4 ⟨v, rfl, hown, hb4⟩
  have pg := padLen_ge n
  obtain ⟨g2, cap2, rfl, hg2, hg2'⟩ := own_form hown (by omega)
  have hcap : padLen n ≤ cap2 := by
    rcases hown.2 with ⟨h0, _⟩ | ⟨g', cap', cur, hv, _, _, hcp, _⟩
    · cases h0
    · injection hv with _ _ hv
      omega
  have c4 := c3.below hb4 c3.lt
  have r4 := r3.below hb4 r3.lt
  have b4 : Below w.heap.size w w4 := b3.trans (hb4.mono b3.size)
  have hcell : Hid (∀ j, j < padLen n → w4.cell? ⟨g2, j, none⟩ = some (.int .u8 ((endN p n many j : Nat) : Int))) := fun j hj => by
    rw [hown.cellAt j (by omega), bytesL_at _ _ _ hj]
  obtain ⟨cur, hcur, hcc⟩ : ∃ cur, Blk w4 g2 5 cur ∧ Hid (∀ j, j < padLen n → cur[j]? = some (.int .u8 ((endN p n many j : Nat) : Int))) := by
    rcases hown.2 with ⟨h0, _⟩ | ⟨g', cap', cur, hv, _, hgg, _⟩
    · cases h0
    · have : g2 = g' := by injection hv with hv; injection hv with hv; injection hv
      subst this
      refine ⟨cur, hgg, fun j hj => ?_⟩
      have hB : Blk w4 g2 5 cur := hgg
      rw [← hB.cell]
      exact hcell.out j hj
  have HE : Hid (∀ j, endN p n many j < 256) := end_lt p n many hp hn31
  have hS : Hid (∀ (d : Nat → Nat) (w : World), Calls Tryz.prog 120 #[.agg (va 8 (iv .u32 d))] w fun e w' => e = .returned (.agg (va 32 (iv .u8 (sumN d)))) ∧ Below w.heap.size w w') := fun d w => sum_any d w
  have hgne : w.heap.size + 2 ≤ g2 := by omega
  generalize HEQ : endN p n many = E at *
  have HEE : Hid (endN p n many = E) := HEQ
  clear HEQ
  obtain ⟨N, hN⟩ : ∃ N : Nat, N = (n + 8) / 32 + 1 := ⟨_, rfl⟩
  have hpl : padLen n = 32 * N := by rw [hN]; rfl
  have hNle : N ≤ 2 := by omega
  rw [hpl] at hcap hcc
  have HPL : Hid (padLen n = 32 * N) := hpl
  have HNN : Hid ((n + 8) / 32 + 1 = N) := hN.symm
  rw [hpl]
  have l4 := r4.lt
  clear c3 r3 b3 g3 hb4 hP hg hcell hown hpl hN pg
  go_wp2_with fail
  go_loopw [6] (fun v wr => ∃ (i : Nat) (ao : Option Addr) (cp : Nat), i ≤ N ∧ v = .slice ao (32 * (N - i)) cp ∧ (i < N → ao = some ⟨g2, 32 * i, none⟩ ∧ 32 * (N - i) ≤ cp) ∧ Blk wr (w.heap.size + 1) 237 (va 8 (iv .u32 (runN c E i))) ∧ Blk wr w.heap.size 41 (va 32 (iv .u8 fun _ => 0)) ∧ Blk wr g2 5 cur ∧ Below w.heap.size w wr) (fun v _ => match v with | .slice _ k _ => k | _ => 0)
  case atStart => exact ⟨0, some ⟨g2, 0, none⟩, cap2, Nat.zero_le _, rfl, fun _ => ⟨rfl, hcap⟩, c4, r4, hcur, b4⟩
  case round =>
    clear c4 r4 hcur b4 l4
    obtain ⟨i, ao, cp, hi, rfl, hao, c4, r4, hcur, b4⟩ := hrel
    by_cases hlt : i < N
    · obtain ⟨rfl, hcp⟩ := hao hlt
      have hK := run_ok hc HE.out i
      have hPr : Hid (∀ w : World, Calls Tryz.prog 118 #[.agg (va 8 (iv .u32 (runN c E i))), .agg (va 32 (iv .u8 fun j => E (32 * i + j)))] w fun e w' => e = .returned (.agg (va 8 (iv .u32 (runN c E (i + 1))))) ∧ Below w.heap.size w w') := fun w => press_any (runN c E i) (fun j => E (32 * i + j)) hK (fun j _ => HE.out _) w
      generalize HK : runN c E (i + 1) = k1 at *
      have HK1 : Hid (runN c E (i + 1) = k1) := HK
      clear HK
      generalize runN c E i = k0 at *
      obtain ⟨L, hL⟩ : ∃ L : Nat, L = 32 * (N - i) := ⟨_, rfl⟩
      rw [← hL] at hcp ⊢
      have HL : Hid (L = 32 * (N - i)) := hL
      have hL1 : 32 ≤ L := by omega
      have t1 : decide ((0 : Int) < (L : Int)) = true := decide_eq_true (by omega)
      have t2 : (32 : Int) ≤ (L : Int) := by omega
      clear hL hao
      have n0 : Blk (wr.alloc (.cells #[.int .u8 0, .int .u8 0, .int .u8 0, .int .u8 0, .int .u8 0, .int .u8 0, .int .u8 0, .int .u8 0, .int .u8 0, .int .u8 0, .int .u8 0, .int .u8 0, .int .u8 0, .int .u8 0, .int .u8 0, .int .u8 0, .int .u8 0, .int .u8 0, .int .u8 0, .int .u8 0, .int .u8 0, .int .u8 0, .int .u8 0, .int .u8 0, .int .u8 0, .int .u8 0, .int .u8 0, .int .u8 0, .int .u8 0, .int .u8 0, .int .u8 0, .int .u8 0] 239)) wr.heap.size 239 (va 32 (iv .u8 fun _ => 0)) := Blk.new _ _ _
      have HC : Hid (∀ j v, (bytesL (fun j => E (32 * i + j)) 32)[j]? = some v → (wr.alloc (.cells #[.int .u8 0, .int .u8 0, .int .u8 0, .int .u8 0, .int .u8 0, .int .u8 0, .int .u8 0, .int .u8 0, .int .u8 0, .int .u8 0, .int .u8 0, .int .u8 0, .int .u8 0, .int .u8 0, .int .u8 0, .int .u8 0, .int .u8 0, .int .u8 0, .int .u8 0, .int .u8 0, .int .u8 0, .int .u8 0, .int .u8 0, .int .u8 0, .int .u8 0, .int .u8 0, .int .u8 0, .int .u8 0, .int .u8 0, .int .u8 0, .int .u8 0, .int .u8 0] 239)).cell? ((⟨g2, 32 * i, none⟩ : Addr).add j) = some v) := fun j v hv => by
        have hj : j < 32 := by
          have := (List.getElem?_eq_some_iff.1 hv).1
          rwa [bytesL_length] at this
        rw [Addr.add_mid, (hcur.alloc _).cell, hcc.out _ (by omega), ← hv, bytesL_at _ _ _ hj]
      have HW0 : Hid ((wr.alloc (.cells #[.int .u8 0, .int .u8 0, .int .u8 0, .int .u8 0, .int .u8 0, .int .u8 0, .int .u8 0, .int .u8 0, .int .u8 0, .int .u8 0, .int .u8 0, .int .u8 0, .int .u8 0, .int .u8 0, .int .u8 0, .int .u8 0, .int .u8 0, .int .u8 0, .int .u8 0, .int .u8 0, .int .u8 0, .int .u8 0, .int .u8 0, .int .u8 0, .int .u8 0, .int .u8 0, .int .u8 0, .int .u8 0, .int .u8 0, .int .u8 0, .int .u8 0, .int .u8 0] 239)).heap[wr.heap.size]? = some (.cells [Value.int .u8 0, .int .u8 0, .int .u8 0, .int .u8 0, .int .u8 0, .int .u8 0, .int .u8 0, .int .u8 0, .int .u8 0, .int .u8 0, .int .u8 0, .int .u8 0, .int .u8 0, .int .u8 0, .int .u8 0, .int .u8 0, .int .u8 0, .int .u8 0, .int .u8 0, .int .u8 0, .int .u8 0, .int .u8 0, .int .u8 0, .int .u8 0, .int .u8 0, .int .u8 0, .int .u8 0, .int .u8 0, .int .u8 0, .int .u8 0, .int .u8 0, .int .u8 0].toArray 239 (0, 0))) := n0
      have HSP : Hid ((splice [Value.int .u8 0, .int .u8 0, .int .u8 0, .int .u8 0, .int .u8 0, .int .u8 0, .int .u8 0, .int .u8 0, .int .u8 0, .int .u8 0, .int .u8 0, .int .u8 0, .int .u8 0, .int .u8 0, .int .u8 0, .int .u8 0, .int .u8 0, .int .u8 0, .int .u8 0, .int .u8 0, .int .u8 0, .int .u8 0, .int .u8 0, .int .u8 0, .int .u8 0, .int .u8 0, .int .u8 0, .int .u8 0, .int .u8 0, .int .u8 0, .int .u8 0, .int .u8 0] 0 (bytesL (fun j => E (32 * i + j)) 32)).toArray = va 32 (iv .u8 fun j => E (32 * i + j))) := by
        show _ = _
        have e := splice_va 32 0 32 (iv .u8 fun _ => 0) (fun j => Value.int .u8 ((E (32 * i + j) : Nat) : Int)) (by omega)
        refine Eq.trans ?_ (e.trans ?_)
        · rfl
        · refine va_congr fun j hj => ?_
          show overF _ 0 32 _ j = _
          unfold overF
          rw [if_pos (by omega)]
          rfl
      have HLEN : Hid ((bytesL (fun j => E (32 * i + j)) 32).length = Nat.min L 32) := by
        show _ = _
        rw [bytesL_length, show Nat.min L 32 = 32 from Nat.min_eq_right hL1]
      have HFIT : Hid (0 + (bytesL (fun j => E (32 * i + j)) 32).length ≤ [Value.int .u8 0, .int .u8 0, .int .u8 0, .int .u8 0, .int .u8 0, .int .u8 0, .int .u8 0, .int .u8 0, .int .u8 0, .int .u8 0, .int .u8 0, .int .u8 0, .int .u8 0, .int .u8 0, .int .u8 0, .int .u8 0, .int .u8 0, .int .u8 0, .int .u8 0, .int .u8 0, .int .u8 0, .int .u8 0, .int .u8 0, .int .u8 0, .int .u8 0, .int .u8 0, .int .u8 0, .int .u8 0, .int .u8 0, .int .u8 0, .int .u8 0, .int .u8 0].length) := by
        show _ ≤ _
        rw [bytesL_length]
        decide
      clear n0
      go_wp2_with (first
        | (refine wpList_copy_splice rfl _ _ 165 165 rfl 5 Tryz.underlying165 sizeByte (some ⟨wr.heap.size, 0, none⟩) (some ⟨g2, 32 * i, none⟩) 32 32 L cp (by rfl) (by rfl) wr.heap.size 0 [Value.int .u8 0, .int .u8 0, .int .u8 0, .int .u8 0, .int .u8 0, .int .u8 0, .int .u8 0, .int .u8 0, .int .u8 0, .int .u8 0, .int .u8 0, .int .u8 0, .int .u8 0, .int .u8 0, .int .u8 0, .int .u8 0, .int .u8 0, .int .u8 0, .int .u8 0, .int .u8 0, .int .u8 0, .int .u8 0, .int .u8 0, .int .u8 0, .int .u8 0, .int .u8 0, .int .u8 0, .int .u8 0, .int .u8 0, .int .u8 0, .int .u8 0, .int .u8 0] 239 HW0.out (bytesL (fun j => E (32 * i + j)) 32) HLEN.out (fun _ => ⟨rfl, _, rfl, HC.out⟩) HFIT.out (mem_iv_one _ _ _) wr.heap.size wr ((Below.refl _ _).alloc (Nat.le_refl _) _) (Nat.le_refl _) ?_)
        | go_in)
      intro w5 hg5 hb5
      have q5 : Blk w5 wr.heap.size 239 (va 32 (iv .u8 fun j => E (32 * i + j))) := by
        have := hg5.out
        rw [HSP.out] at this
        exact this
      have c5 := c4.below hb5 c4.lt
      have r5 := r4.below hb5 r4.lt
      have cur5 := hcur.below hb5 hcur.lt
      have b5 : Below w.heap.size w w5 := b4.trans (hb5.mono b4.size)
      have lr := r4.lt
      clear hg5 hb5 HSP HLEN HFIT HC HW0 c4 r4 hcur b4
      go_wp2_with (first
        | (refine wpList_load_row (by rfl) 237 _ (by rfl) (w.heap.size + 1) (by rfl) 237 (va 8 (iv .u32 k0)) (0, 0) _ c5 Tryz.underlying237 (by rfl) (sizeChain.trans (by rw [va_size])) ?_; simp only [Act.put, List.setIfInBounds_toArray, List.set_cons_zero, List.set_cons_succ])
        | (refine wpList_load_row (by rfl) 239 _ (by rfl) wr.heap.size (by rfl) 239 (va 32 (iv .u8 fun j => E (32 * i + j))) (0, 0) _ q5 Tryz.underlying239 (by rfl) (sizePiece.trans (by rw [va_size])) ?_; simp only [Act.put, List.setIfInBounds_toArray, List.set_cons_zero, List.set_cons_succ])
        | fail)
      refine (hPr.out _).mono ?_
      rintro e w6 ⟨rfl, hb6⟩
      have c6 := c5.below hb6 c5.lt
      have r6 := r5.below hb6 r5.lt
      have cur6 := cur5.below hb6 cur5.lt
      have b6 : Below w.heap.size w w6 := b5.trans (hb6.mono b5.size)
      clear c5 r5 cur5 b5 q5 hb6 hPr
      have c7 := c6.set (va 8 (iv .u32 k1))
      have r7 := r6.other (va 8 (iv .u32 k1)) (g := w.heap.size + 1) (by omega)
      have cur7 := cur6.other (va 8 (iv .u32 k1)) (g := w.heap.size + 1) (by omega)
      have b7 : Below w.heap.size w (w6.setRow (w.heap.size + 1) (va 8 (iv .u32 k1))) := below_setRow b6 (by omega) _
      have HJ : Hid (Blk (w6.setRow (w.heap.size + 1) (va 8 (iv .u32 k1))) (w.heap.size + 1) 237 (va 8 (iv .u32 k1)) ∧ Blk (w6.setRow (w.heap.size + 1) (va 8 (iv .u32 k1))) w.heap.size 41 (va 32 (iv .u8 fun _ => 0)) ∧ Blk (w6.setRow (w.heap.size + 1) (va 8 (iv .u32 k1))) g2 5 cur ∧ Below w.heap.size w (w6.setRow (w.heap.size + 1) (va 8 (iv .u32 k1)))) := ⟨c7, r7, cur7, b7⟩
      clear c7 r7 cur7 b7 r6 cur6 b6
      go_wp2_with (first
        | (refine wpList_store_row (by rfl) 237 _ _ (by rfl) (w.heap.size + 1) (va 8 (iv .u32 k1)) (by rfl) (by rfl) 237 _ c6 (sizeChain.trans (by rw [va_size])) (by rw [va_size, va_size]) (iv_one _ _ _) ?_; simp only [Act.put, List.setIfInBounds_toArray, List.set_cons_zero, List.set_cons_succ])
        | fail)
      have hLL := HL.out
      refine ⟨⟨i + 1, (if cp = 32 then some ⟨g2, 32 * i, none⟩ else some ⟨g2, 32 * i + 32, none⟩), cp - 32, by omega, ?_, ?_, ?_, HJ.out.2.1, HJ.out.2.2.1, HJ.out.2.2.2⟩, ?_⟩
      · rw [show L - 32 = 32 * (N - (i + 1)) from by omega]
      · intro h2
        rw [if_neg (by omega)]
        exact ⟨rfl, by omega⟩
      · rw [HK1.out]
        exact HJ.out.1
      · show L - 32 < L
        omega
    · obtain rfl : i = N := by omega
      rw [Nat.sub_self, Nat.mul_zero]
      have hSS := hS.out (runN c E i)
      have HSS : Hid (∀ w : World, Calls Tryz.prog 120 #[.agg (va 8 (iv .u32 (runN c E i)))] w fun e w' => e = .returned (.agg (va 32 (iv .u8 (sumN (runN c E i))))) ∧ Below w.heap.size w w') := hSS
      have HFIN : Hid (sumN (runN c (endN p n many) ((n + 8) / 32 + 1)) = sumN (runN c E i)) := by
        show _ = _
        rw [HNN.out, HEE.out]
      clear HNN HEE
      clear hS hSS hao hcur
      generalize runN c E i = k0 at *
      generalize sumN k0 = sm at *
      go_wp2_with (first
        | (refine wpList_load_row (by rfl) 237 _ (by rfl) (w.heap.size + 1) (by rfl) 237 (va 8 (iv .u32 k0)) (0, 0) _ c4 Tryz.underlying237 (by rfl) (sizeChain.trans (by rw [va_size])) ?_; simp only [Act.put, List.setIfInBounds_toArray, List.set_cons_zero, List.set_cons_succ])
        | fail)
      refine (HSS.out _).mono ?_
      rintro e w6 ⟨rfl, hb6⟩
      have r6 := r4.below hb6 r4.lt
      have b6 : Below w.heap.size w w6 := b4.trans (hb6.mono b4.size)
      clear c4 r4 b4 hb6 HSS
      go_wp2_with (first
        | (refine wpList_store_row (by rfl) 41 _ _ (by rfl) w.heap.size (va 32 (iv .u8 sm)) (by rfl) (by rfl) 41 _ r6 (sizeSum.trans (by rw [va_size])) (by rw [va_size, va_size]) (iv_one _ _ _) ?_; simp only [Act.put, List.setIfInBounds_toArray, List.set_cons_zero, List.set_cons_succ])
        | fail)
      try simp only [Exit.inBlock, Exit.then]
      refine bodyPost_ret (results_cell_row Tryz.results116 _ _ w.heap.size 41 (va 32 (iv .u8 sm)) (0, 0) _ rfl (r6.set _) Tryz.underlying41 rfl (sizeSum.trans (by rw [va_size]))) rfl ?_
      rw [HFIN.out]
      exact ⟨rfl, below_setRow b6 (Nat.le_refl _) _⟩
end Go.Proofs.YtiofonffmplfmaaGreat

namespace Go.Proofs.YtiofonffmplfmaaGreat
open Go.RowKit
set_option linter.unusedSimpArgs false
set_option linter.unusedVariables false

/-- the digest of the text t, m bytes of it, out of a first chain -/
def ofC (c0 t : Nat → Nat) (m : Nat) : Nat → Nat := sumN (runN c0 (padN t m) ((m + 8) / 32 + 1))
theorem hold_sum (c0 t p : Nat → Nat) (m : Nat) (hp : ∀ j, j < m % 32 → p j = t (32 * (m / 32) + j)) (i : Nat) (hi : i < 32) :
    sumN (runN (runN c0 t (m / 32)) (endN p (m % 32) m) ((m % 32 + 8) / 32 + 1)) i = ofC c0 t m i := by
  unfold ofC
  have e : (m + 8) / 32 + 1 = m / 32 + ((m % 32 + 8) / 32 + 1) := by omega
  rw [e, run_add c0 (padN t m) (m / 32) ((m % 32 + 8) / 32 + 1)]
  refine sum_congr (run_congr (run_congr (fun _ _ => rfl) _ fun j hj => ?_) _ fun j hj => ?_) i hi
  · show t j = padN t m j
    unfold padN
    rw [if_pos (by omega)]
  · show endN p (m % 32) m j = padN t m (32 * (m / 32) + j)
    rw [pad_split]
    unfold endN
    by_cases h1 : j < m % 32
    · rw [if_pos h1, if_pos h1, hp j h1]
    · rw [if_neg h1, if_neg h1]
theorem sum_holds (g m : Nat) (c0 t : Nat → Nat) (hc0 : okC c0) (ht : ∀ i, t i < 256) (hm : m ≤ 140737488351232) (w : World) (h : Holds w g c0 t m) :
    Calls Tryz.prog 116 #[.pointer (some ⟨g, 0, none⟩)] w fun e w' => e = .returned (.agg (va 32 (iv .u8 (ofC c0 t m)))) ∧ Below w.heap.size w w' := by
  obtain ⟨p, hp, hpt, hB⟩ := h
  refine (hsum_any g m _ p (run_ok hc0 ht _) hp (by omega) w hB).mono ?_
  rintro e w' ⟨rfl, hb⟩
  refine ⟨?_, hb⟩
  have e : va 32 (iv .u8 (sumN (runN (runN c0 t (m / 32)) (endN p (m % 32) m) ((m % 32 + 8) / 32 + 1)))) = va 32 (iv .u8 (ofC c0 t m)) := va_congr fun i hi => by
    unfold iv
    rw [hold_sum c0 t p m hpt i hi]
  rw [e]
theorem new_holds (tag : Nat) (h : tag < 256) (t : Nat → Nat) (w : World) :
    Calls Tryz.prog 114 #[.int .u8 (tag : Int)] w fun e w' => ∃ g, e = .returned (.pointer (some ⟨g, 0, none⟩)) ∧ w.heap.size ≤ g ∧ Holds w' g (firstN tag) t 0 ∧ Below w.heap.size w w' := by
  refine (new_any tag h w).mono ?_
  rintro e w' ⟨g, rfl, hg, hB, hb⟩
  exact ⟨g, rfl, hg, ⟨fun _ => 0, fun _ _ => Nat.zero_lt_succ _, fun j hj => absurd hj (by omega), hB⟩, hb⟩
theorem Holds.lt {w : World} {g m : Nat} {c0 t : Nat → Nat} (h : Holds w g c0 t m) : g < w.heap.size := by
  obtain ⟨p, _, _, hB⟩ := h
  exact hB.lt

set_option maxHeartbeats 4000000 in
theorem of_any (tag : Nat) (h : tag < 256) (s : ByteArray) (hs : s.size ≤ 140737488351232) (w : World) :
    Calls Tryz.prog 109 #[.int .u8 (tag : Int), .string s] w fun e w' => e = .returned (.agg (va 32 (iv .u8 (ofC (firstN tag) (byteAt s) s.size)))) ∧ Below w.heap.size w w' := by
  have hN : Hid (∀ w : World, Calls Tryz.prog 114 #[.int .u8 (tag : Int)] w fun e w' => ∃ g, e = .returned (.pointer (some ⟨g, 0, none⟩)) ∧ w.heap.size ≤ g ∧ Holds w' g (firstN tag) (byteAt s) 0 ∧ Below w.heap.size w w') := fun w => new_holds tag h _ w
  have hW : Hid (∀ (g : Nat) (w : World), Holds w g (firstN tag) (byteAt s) 0 → Calls Tryz.prog 115 #[.pointer (some ⟨g, 0, none⟩), .string s] w fun e w' => e = .returned (.tuple #[]) ∧ Holds w' g (firstN tag) (byteAt s) s.size ∧ Keeps g w w') := fun g w hH => by
    have := write_any g 0 (firstN tag) (byteAt s) s (first_ok tag h) (byteAt_lt s) (by omega) (fun j _ => by rw [Nat.zero_add]) w hH
    rw [Nat.zero_add] at this
    exact this
  have hS : Hid (∀ (g : Nat) (w : World), Holds w g (firstN tag) (byteAt s) s.size → Calls Tryz.prog 116 #[.pointer (some ⟨g, 0, none⟩)] w fun e w' => e = .returned (.agg (va 32 (iv .u8 (ofC (firstN tag) (byteAt s) s.size)))) ∧ Below w.heap.size w w') := fun g w hH => sum_holds g s.size _ _ (first_ok tag h) (byteAt_lt s) hs w hH
  clear hs
  generalize ofC (firstN tag) (byteAt s) s.size = x at *
  have r0 : Blk (w.alloc (.cells #[.int .u8 0, .int .u8 0, .int .u8 0, .int .u8 0, .int .u8 0, .int .u8 0, .int .u8 0, .int .u8 0, .int .u8 0, .int .u8 0, .int .u8 0, .int .u8 0, .int .u8 0, .int .u8 0, .int .u8 0, .int .u8 0, .int .u8 0, .int .u8 0, .int .u8 0, .int .u8 0, .int .u8 0, .int .u8 0, .int .u8 0, .int .u8 0, .int .u8 0, .int .u8 0, .int .u8 0, .int .u8 0, .int .u8 0, .int .u8 0, .int .u8 0, .int .u8 0] 41)) w.heap.size 41 (va 32 (iv .u8 fun _ => 0)) := Blk.new _ _ _
  have b0 : Below w.heap.size w (w.alloc (.cells #[.int .u8 0, .int .u8 0, .int .u8 0, .int .u8 0, .int .u8 0, .int .u8 0, .int .u8 0, .int .u8 0, .int .u8 0, .int .u8 0, .int .u8 0, .int .u8 0, .int .u8 0, .int .u8 0, .int .u8 0, .int .u8 0, .int .u8 0, .int .u8 0, .int .u8 0, .int .u8 0, .int .u8 0, .int .u8 0, .int .u8 0, .int .u8 0, .int .u8 0, .int .u8 0, .int .u8 0, .int .u8 0, .int .u8 0, .int .u8 0, .int .u8 0, .int .u8 0] 41)) := (Below.refl _ _).alloc (Nat.le_refl _) _
  go_enter Tryz.func109, Tryz.ntmps109
  go_wp2_with fail
  refine (hN.out _).mono ?_
  rintro e w1 ⟨g, rfl, hg, hH, hb⟩
  have r1 := r0.below hb r0.lt
  have b1 : Below w.heap.size w w1 := b0.trans (hb.mono (Nat.le_of_lt r0.lt))
  have hg1 : w.heap.size < g := Nat.lt_of_lt_of_le r0.lt hg
  clear r0 b0 hb hg hN
  go_wp2_with fail
  refine (hW.out _ _ hH).mono ?_
  rintro e w2 ⟨rfl, hH2, hk⟩
  have r2 := hk.blk r1 (by omega)
  have b2 : Below w.heap.size w w2 := b1.trans (hk.1.mono (by omega))
  clear r1 b1 hH hk hW
  go_wp2_with fail
  refine (hS.out _ _ hH2).mono ?_
  rintro e w3 ⟨rfl, hb3⟩
  have r3 := r2.below hb3 r2.lt
  have b3 : Below w.heap.size w w3 := b2.trans (hb3.mono b2.size)
  clear r2 b2 hH2 hb3 hS
  go_wp2_with (first
    | (refine wpList_store_row (by rfl) 41 _ _ (by rfl) w.heap.size (va 32 (iv .u8 x)) (by rfl) (by rfl) 41 _ r3 (sizeSum.trans (by rw [va_size])) (by rw [va_size, va_size]) (iv_one _ _ _) ?_; simp only [Act.put, List.setIfInBounds_toArray, List.set_cons_zero, List.set_cons_succ])
    | fail)
  try simp only [Exit.inBlock, Exit.then]
  refine bodyPost_ret (results_cell_row Tryz.results109 _ _ w.heap.size 41 (va 32 (iv .u8 x)) (0, 0) _ rfl (r3.set _) Tryz.underlying41 rfl (sizeSum.trans (by rw [va_size]))) rfl ?_
  exact ⟨rfl, below_setRow b3 (Nat.le_refl _) _⟩
end Go.Proofs.YtiofonffmplfmaaGreat

namespace Go.Proofs.YtiofonffmplfmaaGreat
open Go.RowKit
set_option linter.unusedSimpArgs false
set_option linter.unusedVariables false

/-- an entry as a value -/
def entV (e : Nat × ByteArray) : Value := .agg #[.int .u8 ((e.1 : Nat) : Int), .string e.2]
def sumV (y : Nat → Nat) : Value := .agg (va 32 (iv .u8 y))
/-- an entry's digest -/
def sumOf (e : Nat × ByteArray) : Nat → Nat := ofC (firstN e.1) (byteAt e.2) e.2.size

end Go.Proofs.YtiofonffmplfmaaGreat

namespace Go.Proofs.YtiofonffmplfmaaGreat
open Go.RowKit
set_option linter.unusedSimpArgs false
set_option linter.unusedVariables false

/-- the cells of a list of entries -/
def entCells (E : List (Nat × ByteArray)) : List Value := E.flatMap fun e => [.int .u8 ((e.1 : Nat) : Int), .string e.2]
/-- the log in block g, its map in block r, its entries in the slice v -/
def LogAt (w : World) (g r : Nat) (v : Value) (E : List (Nat × ByteArray)) : Prop :=
  Blk w g 229 #[v, .map (some r)] ∧ w.ownsRow 0 224 2 v E.length (entCells E) ∧ MapIs entV sumV w r (E.map fun e => (e, sumOf e))

end Go.Proofs.YtiofonffmplfmaaGreat

namespace Go.Proofs.YtiofonffmplfmaaGreat
open Go Go.RowKit
set_option linter.unusedVariables false

/-- the slice v of m bytes, told by f, in a block from B on; all up to its capacity may be written -/
def RowC (w : World) (B : Nat) (v : Value) (m : Nat) (f : Nat → Nat) : Prop :=
  ∃ b cap, v = .slice (some ⟨b, 0, none⟩) m cap ∧ B ≤ b ∧ b < w.heap.size ∧ m ≤ cap ∧ (∀ j, j < m → w.cell? ⟨b, j, none⟩ = some (.int .u8 ((f j : Nat) : Int))) ∧
    (∀ j, j < cap → (w.cell? ⟨b, j, none⟩).isSome = true ∧ w.frozen? ⟨b, j, none⟩ = false)
def appN (f : Nat → Nat) (n : Nat) (g : Nat → Nat) : Nat → Nat := fun j => if j < n then f j else g (j - n)
theorem frozen_setCells (b : Nat) (x : Addr) : ∀ (vs : List Value) (o : Nat) (w : World), (w.setCells b o vs).frozen? x = w.frozen? x
  | [], _, _ => rfl
  | v :: vs, o, w => by
    rw [World.setCells, frozen_setCells b x vs (o + 1)]
    exact World.frozen?_setCell _ _ _ _
theorem RowC.below {w w' : World} {B B' m : Nat} {v : Value} {f : Nat → Nat} (h : RowC w B v m f) (hb : Below B' w w') (hB : w.heap.size ≤ B') : RowC w' B v m f := by
  obtain ⟨b, cap, rfl, h1, h2, h3, h4, h5⟩ := h
  have hblk : w'.heap[b]? = w.heap[b]? := hb.block b (by omega)
  have e1 : ∀ j, w'.cell? ⟨b, j, none⟩ = w.cell? ⟨b, j, none⟩ := fun j => by simp [World.cell?, hblk]
  have e2 : ∀ j, w'.frozen? ⟨b, j, none⟩ = w.frozen? ⟨b, j, none⟩ := fun j => by simp [World.frozen?, hblk]
  exact ⟨b, cap, rfl, h1, Nat.lt_of_lt_of_le h2 hb.size, h3, fun j hj => by rw [e1]; exact h4 j hj, fun j hj => by rw [e1, e2]; exact h5 j hj⟩
theorem RowC.of_own {w : World} {B e n : Nat} {v : Value} {f : Nat → Nat} (h : w.ownsRow B e 1 v n (bytesL f n)) (hn : 0 < n) : RowC w B v n f := by
  rcases h.2 with ⟨_, h0⟩ | ⟨g, cap, cur, rfl, hb, hg, hcap, _, hsz, htake⟩
  · omega
  · refine ⟨g, cap, rfl, hb, (Array.getElem?_eq_some_iff.1 hg).1, hcap, fun j hj => ?_, fun j hj => ?_⟩
    · rw [h.cellAt j (by omega), bytesL_at _ _ _ hj]
    · have hB : Blk w g e cur := hg
      refine ⟨?_, hB.frozen j⟩
      rw [hB.cell, Array.getElem?_eq_getElem (by omega)]
      rfl
theorem RowC.congr {w : World} {B m : Nat} {v : Value} {f g : Nat → Nat} (h : RowC w B v m f) (e : ∀ j, j < m → f j = g j) : RowC w B v m g := by
  obtain ⟨b, cap, rfl, h1, h2, h3, h4, h5⟩ := h
  exact ⟨b, cap, rfl, h1, h2, h3, fun j hj => by rw [h4 j hj, e j hj], h5⟩

theorem wpList_append_rowC {P : Program} (w : World) {ops : Array Oper} {rest : List Oper} {o : Oper} {a : Act} {Q : Exit → Act → World → Prop}
    (hg : o.guard = none) (s x : Operand) (t : TypeId) (hop : o.op = Op.call { callee := Callee.builtin Builtin.append, args := #[s, x], argTypes := #[t, t] })
    (e : TypeId) (i : TypeInfo) (z : Value) (h1 : P.underlying t = some (.slice e)) (h2 : P.info? e = some i) (h3 : i.zero = some z) (h4 : i.size = 1) (h5 : i.bytes = 1) (h6 : z.cells.size = 1)
    (B n : Nat) (f : Nat → Nat) (v : Value) (hs : a.eval s = v) (hrow : RowC w B v n f) (hB : B ≤ w.heap.size)
    (ad : Addr) (m c : Nat) (g : Nat → Nat) (hx : a.eval x = .slice (some ad) m c) (hc : ∀ j u, (bytesL g m)[j]? = some u → w.cell? (ad.add j) = some u)
    (b1 : n + m ≤ 140737488355328) (hm : 0 < m)
    (hK : ∀ v' w', RowC w' B v' (n + m) (appN f n g) → Below B w w' → wpList P ops Q rest (a.put o.dst v') w') :
    wpList P ops Q (o :: rest) a w := by
  obtain ⟨b, cap, rfl, hb, hbl, hmc, hcell, hsp⟩ := hrow
  refine wpList_append_arg w hg s x t hop e i z 1 1 h1 h2 h3 h4 h5 h6 (by decide) b 0 n cap (bytesL f n) hs (by rw [bytesL_length]; omega) (fun j u hj => ?_) ad m c (bytesL g m) hx (by rw [bytesL_length]; omega) hc (mem_iv_one _ _ _) (fun hr j hj => ?_) (by unfold maxLen; omega) (by omega) (fun hr => ?_) (fun hr v' w' hown hgrow => ?_)
  · have hjn : j < n := by
      have := (List.getElem?_eq_some_iff.1 hj).1
      rwa [bytesL_length] at this
    rw [Nat.zero_add, hcell j hjn, ← hj, bytesL_at _ _ _ hjn]
  · rw [bytesL_length] at hj
    have := hsp (n + j) (by omega)
    rw [show 0 + n * 1 + j = n + j from by omega]
    exact this
  · rw [show 0 + n * 1 = n from by omega]
    refine hK _ _ ⟨b, cap, rfl, hb, by rw [size_setCells]; exact hbl, hr, fun j hj => ?_, fun j hj => ?_⟩ (below_setCells hb _ _ _ (Below.refl _ _))
    · by_cases hjn : j < n
      · rw [World.cell?_setCells_out b (bytesL g m) n w ⟨b, j, none⟩ (fun _ _ => .inl hjn), hcell j hjn]
        unfold appN
        rw [if_pos hjn]
      · have hin := World.cell?_setCells_in b (bytesL g m) n w (fun i hi => (hsp (n + i) (by rw [bytesL_length] at hi; omega)).1) (j - n) (by rw [bytesL_length]; omega)
        rw [show n + (j - n) = j from by omega] at hin
        have e2 := bytesL_at g m (j - n) (by omega)
        rw [List.getElem?_eq_getElem (by rw [bytesL_length]; omega)] at e2
        rw [hin]
        unfold appN
        rw [if_neg hjn]
        exact e2
    · exact ⟨World.isSome_setCells b _ _ _ _ (hsp j hj).1, by rw [frozen_setCells]; exact (hsp j hj).2⟩
  · have e1 : bytesL f n ++ bytesL g m = bytesL (appN f n g) (n + m) := by
      rw [bytesL_add]
      congr 1
      · exact bytesL_congr fun j hj => by unfold appN; rw [if_pos hj]
      · exact bytesL_congr fun j hj => by unfold appN; rw [if_neg (by omega), show n + j - n = j from by omega]
    rw [e1] at hown
    refine hK v' w' (RowC.of_own (own_mono hown hB) (by omega)) ?_
    exact (Below.refl _ _).grown hgrow hB (fun k hk => nomatch hk)
theorem RowC.of_string (w : World) (e B : Nat) (s : ByteArray) (hB : B ≤ w.heap.size) : RowC (Lib.bytesWorld w e s) B (.slice (some ⟨w.heap.size, 0, none⟩) s.size (grownCap w s.size 0 e)) s.size (byteAt s) := by
  have hcap := grownCap_ge w s.size 0 e
  refine ⟨w.heap.size, _, rfl, hB, by rw [Lib.bytesWorld_size]; omega, hcap, fun j hj => Lib.bytesWorld_cell w e s j hj, fun j hj => ?_⟩
  have hsz : (Lib.bytesCells w e s).size = grownCap w s.size 0 e := by
    unfold Lib.bytesCells
    have : s.data.size = s.size := rfl
    simp
    omega
  constructor
  · simp [World.cell?, Lib.bytesWorld_at_new, hsz, hj]
  · simp [World.frozen?, Lib.bytesWorld_at_new, hsz]
    omega
theorem below_bytes (w : World) (e B : Nat) (s : ByteArray) (hB : B ≤ w.heap.size) : Below B w (Lib.bytesWorld w e s) :=
  ⟨rfl, rfl, rfl, by rw [Lib.bytesWorld_size]; omega, fun k hk => Lib.bytesWorld_at_old w e s k (by omega)⟩
end Go.Proofs.YtiofonffmplfmaaGreat

namespace Go.Proofs.YtiofonffmplfmaaGreat
open Go.RowKit

set_option maxHeartbeats 1000000 in
theorem refQuarter_core (a b c d a1 d1 c1 b1 a2 d2 c2 b2 x1 x2 x3 x4 : Nat)
    (r1 : ((a : Int) + (b : Int)) % 4294967296 = (a1 : Int)) (r2 : bits .xor .u32 (d : Int) (a1 : Int) = (x1 : Int))
    (r3 : ((c : Int) + (d1 : Int)) % 4294967296 = (c1 : Int)) (r4 : bits .xor .u32 (b : Int) (c1 : Int) = (x2 : Int))
    (r5 : ((a1 : Int) + (b1 : Int)) % 4294967296 = (a2 : Int)) (r6 : bits .xor .u32 (d1 : Int) (a2 : Int) = (x3 : Int))
    (r7 : ((c1 : Int) + (d2 : Int)) % 4294967296 = (c2 : Int)) (r8 : bits .xor .u32 (b1 : Int) (c2 : Int) = (x4 : Int))
    (t1 : Hid (∀ w : World, Calls Tryz.prog 111 #[.int .u32 (x1 : Int), .int .i64 16] w fun e w' => e = .returned (.int .u32 (d1 : Int)) ∧ w' = w))
    (t2 : Hid (∀ w : World, Calls Tryz.prog 111 #[.int .u32 (x2 : Int), .int .i64 12] w fun e w' => e = .returned (.int .u32 (b1 : Int)) ∧ w' = w))
    (t3 : Hid (∀ w : World, Calls Tryz.prog 111 #[.int .u32 (x3 : Int), .int .i64 8] w fun e w' => e = .returned (.int .u32 (d2 : Int)) ∧ w' = w))
    (t4 : Hid (∀ w : World, Calls Tryz.prog 111 #[.int .u32 (x4 : Int), .int .i64 7] w fun e w' => e = .returned (.int .u32 (b2 : Int)) ∧ w' = w)) (w : World) :
    Calls Tryz.prog 106 #[.int .u32 (a : Int), .int .u32 (b : Int), .int .u32 (c : Int), .int .u32 (d : Int)] w fun e w' => e = .returned (.tuple #[.int .u32 (a2 : Int), .int .u32 (b2 : Int), .int .u32 (c2 : Int), .int .u32 (d2 : Int)]) ∧ w' = w := by
  go_enter Tryz.func106, Tryz.ntmps106
  go_wp2_with fail
  refine (t1.out _).mono ?_
  rintro e w' ⟨rfl, rfl⟩
  go_wp2_with fail
  refine (t2.out _).mono ?_
  rintro e w' ⟨rfl, rfl⟩
  go_wp2_with fail
  refine (t3.out _).mono ?_
  rintro e w' ⟨rfl, rfl⟩
  go_wp2_with fail
  refine (t4.out _).mono ?_
  rintro e w' ⟨rfl, rfl⟩
  go_wp2
  go_returns
  exact ⟨rfl, rfl⟩
theorem refQuarter_any (a b c d : Nat) (ha : a < 4294967296) (hb : b < 4294967296) (hc : c < 4294967296) (hd : d < 4294967296) (q : Q4) (hq : quarterN ⟨a, b, c, d⟩ = q) (w : World) :
    Calls Tryz.prog 106 #[.int .u32 (a : Int), .int .u32 (b : Int), .int .u32 (c : Int), .int .u32 (d : Int)] w fun e w' => e = .returned (.tuple #[.int .u32 (q.a : Int), .int .u32 (q.b : Int), .int .u32 (q.c : Int), .int .u32 (q.d : Int)]) ∧ w' = w := by
  have o1 := half_ok ⟨a, b, c, d⟩ 16 12 ⟨ha, hb, hc, hd⟩
  have o2 := half_ok _ 8 7 o1
  subst hq
  show Calls _ _ _ _ fun e w' => e = .returned (.tuple #[.int .u32 ((half (half ⟨a, b, c, d⟩ 16 12) 8 7).a : Int), .int .u32 ((half (half ⟨a, b, c, d⟩ 16 12) 8 7).b : Int), .int .u32 ((half (half ⟨a, b, c, d⟩ 16 12) 8 7).c : Int), .int .u32 ((half (half ⟨a, b, c, d⟩ 16 12) 8 7).d : Int)]) ∧ _
  have e1 : half ⟨a, b, c, d⟩ 16 12 = ⟨add32 a b, turnN (b ^^^ add32 c (turnN (d ^^^ add32 a b) 16)) 12, add32 c (turnN (d ^^^ add32 a b) 16), turnN (d ^^^ add32 a b) 16⟩ := rfl
  generalize half ⟨a, b, c, d⟩ 16 12 = q at *
  obtain ⟨a1, b1, c1, d1⟩ := q
  simp only [Q4.mk.injEq] at e1
  obtain ⟨e1, e2, e3, e4⟩ := e1
  obtain ⟨ha1, hb1, hc1, hd1⟩ := o1
  obtain ⟨ha2, hb2, hc2, hd2⟩ := o2
  rw [← e1] at e2 e3 e4
  rw [← e4] at e2 e3
  rw [← e3] at e2
  simp only [half] at *
  refine refQuarter_core a b c d a1 d1 c1 b1 _ _ _ _ _ _ _ _ ?_ (u32_xor_nat _ _ hd ha1) ?_ (u32_xor_nat _ _ hb hc1) (add32_int _ _) (u32_xor_nat _ _ hd1 ha2) (add32_int _ _) (u32_xor_nat _ _ hb1 hc2) ?_ ?_ ?_ ?_ w
  · rw [add32_int, ← e1]
  · rw [add32_int, ← e3]
  · exact fun w => left_at _ _ 16 16 rfl (by decide) w (xor_lt32 _ _ hd ha1) e4.symm
  · exact fun w => left_at _ _ 12 12 rfl (by decide) w (xor_lt32 _ _ hb hc1) e2.symm
  · exact fun w => left_at _ _ 8 8 rfl (by decide) w (xor_lt32 _ _ hd1 ha2) rfl
  · exact fun w => left_at _ _ 7 7 rfl (by decide) w (xor_lt32 _ _ hb1 hc2) rfl

end Go.Proofs.YtiofonffmplfmaaGreat

namespace Go.Proofs.YtiofonffmplfmaaGreat
open Go.RowKit

set_option maxHeartbeats 4000000 in
theorem refRoundEven_core (x0 x1 x2 x3 x4 x5 x6 x7 x8 x9 x10 x11 x12 x13 x14 x15 y0 y1 y2 y3 y4 y5 y6 y7 y8 y9 y10 y11 y12 y13 y14 y15 : Nat)
    (h0 : Hid (∀ w : World, Calls Tryz.prog 106 #[.int .u32 (x0 : Int), .int .u32 (x4 : Int), .int .u32 (x8 : Int), .int .u32 (x12 : Int)] w fun e w' => e = .returned (.tuple #[.int .u32 (y0 : Int), .int .u32 (y4 : Int), .int .u32 (y8 : Int), .int .u32 (y12 : Int)]) ∧ w' = w))
    (h1 : Hid (∀ w : World, Calls Tryz.prog 106 #[.int .u32 (x1 : Int), .int .u32 (x5 : Int), .int .u32 (x9 : Int), .int .u32 (x13 : Int)] w fun e w' => e = .returned (.tuple #[.int .u32 (y1 : Int), .int .u32 (y5 : Int), .int .u32 (y9 : Int), .int .u32 (y13 : Int)]) ∧ w' = w))
    (h2 : Hid (∀ w : World, Calls Tryz.prog 106 #[.int .u32 (x2 : Int), .int .u32 (x6 : Int), .int .u32 (x10 : Int), .int .u32 (x14 : Int)] w fun e w' => e = .returned (.tuple #[.int .u32 (y2 : Int), .int .u32 (y6 : Int), .int .u32 (y10 : Int), .int .u32 (y14 : Int)]) ∧ w' = w))
    (h3 : Hid (∀ w : World, Calls Tryz.prog 106 #[.int .u32 (x3 : Int), .int .u32 (x7 : Int), .int .u32 (x11 : Int), .int .u32 (x15 : Int)] w fun e w' => e = .returned (.tuple #[.int .u32 (y3 : Int), .int .u32 (y7 : Int), .int .u32 (y11 : Int), .int .u32 (y15 : Int)]) ∧ w' = w)) (w : World) :
    Calls Tryz.prog 100 #[.agg #[.int .u32 (x0 : Int), .int .u32 (x1 : Int), .int .u32 (x2 : Int), .int .u32 (x3 : Int), .int .u32 (x4 : Int), .int .u32 (x5 : Int), .int .u32 (x6 : Int), .int .u32 (x7 : Int), .int .u32 (x8 : Int), .int .u32 (x9 : Int), .int .u32 (x10 : Int), .int .u32 (x11 : Int), .int .u32 (x12 : Int), .int .u32 (x13 : Int), .int .u32 (x14 : Int), .int .u32 (x15 : Int)], .bool false, .bool false] w fun e w' => e = .returned (.agg #[.int .u32 (y0 : Int), .int .u32 (y1 : Int), .int .u32 (y2 : Int), .int .u32 (y3 : Int), .int .u32 (y4 : Int), .int .u32 (y5 : Int), .int .u32 (y6 : Int), .int .u32 (y7 : Int), .int .u32 (y8 : Int), .int .u32 (y9 : Int), .int .u32 (y10 : Int), .int .u32 (y11 : Int), .int .u32 (y12 : Int), .int .u32 (y13 : Int), .int .u32 (y14 : Int), .int .u32 (y15 : Int)]) ∧ Below w.heap.size w w' := by
  go_enter Tryz.func100, Tryz.ntmps100
  go_wp2_with fail
  refine wp_loop_rounds 5 ?_
  rw [rounds_succ]
  go_wp2
  refine wp_region_text (by kernel_rfl) (by kernel_rfl) ?_
  go_wp2_with fail
  refine (h0.out _).mono ?_
  rintro e w1 ⟨rfl, rfl⟩
  go_wp2_with fail
  refine ⟨rfl, ?_⟩
  go_wp2_with fail
  rw [rounds_succ]
  go_wp2
  refine wp_region_text (by kernel_rfl) (by kernel_rfl) ?_
  go_wp2_with fail
  refine (h1.out _).mono ?_
  rintro e w1 ⟨rfl, rfl⟩
  go_wp2_with fail
  refine ⟨rfl, ?_⟩
  go_wp2_with fail
  rw [rounds_succ]
  go_wp2
  refine wp_region_text (by kernel_rfl) (by kernel_rfl) ?_
  go_wp2_with fail
  refine (h2.out _).mono ?_
  rintro e w1 ⟨rfl, rfl⟩
  go_wp2_with fail
  refine ⟨rfl, ?_⟩
  go_wp2_with fail
  rw [rounds_succ]
  go_wp2
  refine wp_region_text (by kernel_rfl) (by kernel_rfl) ?_
  go_wp2_with fail
  refine (h3.out _).mono ?_
  rintro e w1 ⟨rfl, rfl⟩
  go_wp2_with fail
  refine ⟨rfl, ?_⟩
  go_wp2_with fail
  rw [rounds_succ]
  go_wp2
  go_returns
  refine ⟨by simp, ?_⟩
  go_grown

end Go.Proofs.YtiofonffmplfmaaGreat
