/- A reference, a node as an argument, opened: no condition but that it is one. -/
import Derived.Test.YtpoaipoadokggaaHIoFrom
import Derived.Handy
import Derived.Test.YtpoaipoadokggaaHIoREnc
import Derived.Test.YtpoaipoadokggaaRows
import Derived.WalkKit
import Derived.ProofKit
import Derived.OpenShut
import Derived.Carry
import Derived.Deep.Slices
import Derived.Lib.SmallJoins
import Derived.SizedLaws
import Derived.Test.YtpoaipoadokggaaHSegsIf
import Derived.Test.YtpoaipoadokggaaHNdKit

namespace Go.Proofs.Ytpoaipoadokggaa
set_option maxRecDepth 20000
open Go Go.RowKit
set_option linter.unusedVariables false
set_option linter.unusedSimpArgs false
theorem built_rrf (r : Rf) : Try.prog.built 40 [(0, .int .u32 ((r.1 : Nat) : Int)), (1, .agg (va 32 (iv .u8 (dF r.2))))] = some (rfC r) := by kernel_rfl
theorem built_rtree (h : Int) (r : Rf) : Try.prog.built 42 [(0, .int .i64 h), (1, .agg (rfC r))] = some (tiC h r) := by kernel_rfl
theorem built_rino (x : Ino) : Try.prog.built 44 [(0, .int .i64 x.k), (1, .int .i64 x.l), (2, .int .i64 x.s), (3, .int .u64 ((x.t : Nat) : Int)), (4, .agg (tiC x.h x.r))] = some (inC x) := by kernel_rfl
theorem sizeSm14 : (Try.prog.info? 25).map (·.size) = some 32 := by kernel_rfl
set_option maxHeartbeats 2000000 in
theorem given14_any (x : Ino) (w : World) : Calls Try.prog 10 #[.agg (inC x)] w fun e w' => e = .returned (.agg (inC x)) ∧ Below w.heap.size w w' := by
  have hz := zero_rino
  have r0 : Blk ((w.alloc (.cells (inC x) 31)).alloc (.cells (inC in0) 44)) w.heap.size 31 (inC x) := (Blk.new _ _ _).alloc _
  have r1 : Blk ((w.alloc (.cells (inC x) 31)).alloc (.cells (inC in0) 44)) (w.heap.size + 1) 44 (inC in0) := Blk.new1 _ _ _ _
  have HB : Hid (Below w.heap.size w ((w.alloc (.cells (inC x) 31)).alloc (.cells (inC in0) 44))) := below_new2 _ _ _
  have c0 := ino_c0 r0
  have c1 := ino_c1 r0
  have c2 := ino_c2 r0
  have c3 := ino_c3 r0
  have c4 := ino_c4 r0
  have c5 := ino_c5 r0
  have q0 : ((w.alloc (.cells (inC x) 31)).alloc (.cells (inC in0) 44)).rangeAt w.heap.size 6 ((List.range 32).map (iv .u8 (dF x.r.2))) := by
    have h := World.rangeAt_of_block (b := w.heap.size) r0 6 32
    rw [in_sum] at h
    rwa [va_toList] at h
  have hb1 := built_rrf x.r
  have hb2 := built_rtree x.h x.r
  have hb3 := built_rino x
  go_enter Try.func10, Try.ntmps10
  go_wp2_with (first
    | (refine wpList_load_blk (by rfl) 25 _ (by rfl) (w.heap.size) 6 32 (iv .u8 (dF x.r.2)) (by rfl) _ (by exact q0) Try.underlying25 rfl sizeSm14 ?_; simp only [Act.put, List.setIfInBounds_toArray, List.set_cons_zero, List.set_cons_succ])
    | (refine wpList_build2 (by rfl) 40 _ _ (by rfl) (.int .u32 ((x.r.1 : Nat) : Int)) (.agg (va 32 (iv .u8 (dF x.r.2)))) (by rfl) (by rfl) (rfC x.r) hb1 ?_; simp only [Act.put, List.setIfInBounds_toArray, List.set_cons_zero, List.set_cons_succ])
    | (refine wpList_build2 (by rfl) 42 _ _ (by rfl) (.int .i64 x.h) (.agg (rfC x.r)) (by rfl) (by rfl) (tiC x.h x.r) hb2 ?_; simp only [Act.put, List.setIfInBounds_toArray, List.set_cons_zero, List.set_cons_succ])
    | (refine wpList_build5 (by rfl) 44 _ _ _ _ _ (by rfl) (.int .i64 x.k) (.int .i64 x.l) (.int .i64 x.s) (.int .u64 ((x.t : Nat) : Int)) (.agg (tiC x.h x.r)) (by rfl) (by rfl) (by rfl) (by rfl) (by rfl) (inC x) hb3 ?_; simp only [Act.put, List.setIfInBounds_toArray, List.set_cons_zero, List.set_cons_succ])
    | (refine wpList_store_row (by rfl) 44 _ _ (by rfl) (w.heap.size + 1) (inC x) (by rfl) (by rfl) 44 (inC in0) (by exact r1) (sizeRIno.trans (by rw [inC_size])) (by simp only [inC_size]) (inC_all _) ?_; simp only [Act.put, List.setIfInBounds_toArray, List.set_cons_zero, List.set_cons_succ])
    | fail)
  try simp only [Exit.inBlock, Exit.then]
  refine bodyPost_ret (results_cell_row Try.results10 _ _ (w.heap.size + 1) 44 (inC x) (0, 0) _ rfl (r1.set _) Try.underlying44 rfl (sizeRIno.trans (by rw [inC_size]))) rfl ?_
  exact ⟨rfl, below_setRow HB.out (by omega) _⟩
end Go.Proofs.Ytpoaipoadokggaa

namespace Go.Proofs.Ytpoaipoadokggaa
set_option maxRecDepth 20000
open Go Go.RowKit
set_option linter.unusedVariables false
set_option linter.unusedSimpArgs false
theorem wpList_build4 {P : Program} {ops : Array Oper} {rest : List Oper} {o : Oper} {a : Act} {w : World} {Q : Exit → Act → World → Prop} (hg : o.guard = none) (t : TypeId) (x0 x1 x2 x3 : Operand) (ho : o.op = .build t #[(0, x0), (1, x1), (2, x2), (3, x3)]) (v0 v1 v2 v3 : Value) (h0 : a.eval x0 = v0) (h1 : a.eval x1 = v1) (h2 : a.eval x2 = v2) (h3 : a.eval x3 = v3)
    (cells : Array Value) (hf : P.built t [(0, v0), (1, v1), (2, v2), (3, v3)] = some cells) (h : wpList P ops Q rest (a.put o.dst (.agg cells)) w) : wpList P ops Q (o :: rest) a w := by
  refine wpList_buildTo hg t _ ho o.dst rfl cells ?_ h
  have e : (Array.map (fun (x : Nat × Operand) => match x with | (i, x) => (i, a.eval x)) #[(0, x0), (1, x1), (2, x2), (3, x3)]).toList = [(0, v0), (1, v1), (2, v2), (3, v3)] := by simp [h0, h1, h2, h3]
  rw [e]
  exact hf
/-- what the bytes say, as the document takes them -/
def rpr (s : ByteArray) : Ino := ⟨(at2 s 0 : Nat), (at2 s 2 : Nat), (at8 s 8 : Nat), at8 s 16, (at2 s 4 : Nat), decR s 24⟩
theorem rpr_w (s : ByteArray) (h : at8 s 8 ≤ 1048576) : InW (rpr s) := by
  have h1 := at2_lt s 0
  have h2 := at2_lt s 2
  have h3 := at2_lt s 4
  exact ⟨by unfold rpr; constructor <;> simp <;> omega, by unfold rpr; constructor <;> simp <;> omega, by unfold rpr; constructor <;> simp <;> omega, at8_lt s 16, by unfold rpr; constructor <;> simp <;> omega, at4_lt s 24, decR_ok s 24⟩
theorem rpr_enc (x : Ino) (hx : InW x) (hc : chk x = true) : rpr (strN (inB x) 64) = x := by
  obtain ⟨b1, b2, b3, b4, b5, b6⟩ := chk_small hc
  unfold rpr
  rw [enc_r x hx.d hx.a, enc_k x hx.d (by omega), enc_l x hx.d (by omega), enc_h x hx.d (by omega), enc_t x hx.d hx.t, enc_s x hx.d (by omega)]
/-- both take the same -/
theorem dec_same (s : ByteArray) (h64 : s.size = 64) (h8 : at8 s 8 ≤ 1048576) : decOk s = (chk (rpr s) && decide (strN (inB (rpr s)) 64 = s)) ∧ decV s = if (chk (rpr s) && decide (strN (inB (rpr s)) 64 = s)) = true then rpr s else in0 := by
  cases hk : decOk s
  · have h1 : (chk (rpr s) && decide (strN (inB (rpr s)) 64 = s)) = false := by
      cases hq : (chk (rpr s) && decide (strN (inB (rpr s)) 64 = s))
      · rfl
      · rw [Bool.and_eq_true, decide_eq_true_eq] at hq
        have := (dec_enc (rpr s) (rpr_w s h8) hq.1).1
        rw [hq.2, hk] at this
        cases this
    rw [h1]
    refine ⟨rfl, ?_⟩
    unfold decV
    rw [hk]
    rfl
  · obtain ⟨e1, e2, e3⟩ := dec_back s hk
    have e4 : rpr s = prt s := by
      have := rpr_enc (prt s) (prt_w s) e2
      rw [e3] at this
      exact this
    have h1 : (chk (rpr s) && decide (strN (inB (rpr s)) 64 = s)) = true := by
      rw [e4, e2, decide_eq_true e3]
      rfl
    rw [h1]
    refine ⟨rfl, ?_⟩
    rw [if_pos rfl, e1, e4]
theorem dec_no (s : ByteArray) (h : s.size ≠ 64 ∨ 1048576 < at8 s 8) : decOk s = false ∧ decV s = in0 := by
  have hk : decOk s = false := by
    cases hq : decOk s
    · rfl
    · obtain ⟨e1, e2, e3⟩ := dec_back s hq
      rcases h with h | h
      · exact absurd (by rw [← e3]; exact strN_size _ _) h
      · have h1 := enc_s (prt s) (prt_w s).d (by have := (chk_small e2).2.2.2.1; omega)
        rw [e3] at h1
        have := (chk_small e2).2.2.2.1
        omega
  exact ⟨hk, by unfold decV; rw [hk]; rfl⟩
set_option maxHeartbeats 2000000 in
theorem in_set4 (k l s : Int) (t : Nat) (h h' : Int) (r : Rf) : (inC ⟨k, l, s, t, h, r⟩).setIfInBounds 4 (.int .i64 h') = inC ⟨k, l, s, t, h', r⟩ := by
  unfold inC
  rw [va_set]
  refine va_congr fun i hi => ?_
  unfold upd inF tiF
  by_cases e : i = 4
  · subst e; rfl
  · rw [if_neg e]
    by_cases e0 : i = 0
    · rw [if_pos e0, if_pos e0]
    · rw [if_neg e0, if_neg e0]
      by_cases e1 : i = 1
      · rw [if_pos e1, if_pos e1]
      · rw [if_neg e1, if_neg e1]
        by_cases e2 : i = 2
        · rw [if_pos e2, if_pos e2]
        · rw [if_neg e2, if_neg e2]
          by_cases e3 : i = 3
          · rw [if_pos e3, if_pos e3]
          · rw [if_neg e3, if_neg e3, if_neg (by omega), if_neg (by omega)]
set_option maxHeartbeats 2000000 in
theorem in_set5 (k l s : Int) (t : Nat) (h : Int) (a a' : Nat) (d : Vector Nat 32) : (inC ⟨k, l, s, t, h, (a, d)⟩).setIfInBounds 5 (.int .u32 ((a' : Nat) : Int)) = inC ⟨k, l, s, t, h, (a', d)⟩ := by
  unfold inC
  rw [va_set]
  refine va_congr fun i hi => ?_
  unfold upd inF tiF rfF
  by_cases e : i = 5
  · subst e; rfl
  · rw [if_neg e]
    by_cases e0 : i = 0
    · rw [if_pos e0, if_pos e0]
    · rw [if_neg e0, if_neg e0]
      by_cases e1 : i = 1
      · rw [if_pos e1, if_pos e1]
      · rw [if_neg e1, if_neg e1]
        by_cases e2 : i = 2
        · rw [if_pos e2, if_pos e2]
        · rw [if_neg e2, if_neg e2]
          by_cases e3 : i = 3
          · rw [if_pos e3, if_pos e3]
          · rw [if_neg e3, if_neg e3]
            by_cases e4 : i - 4 = 0
            · rw [if_pos e4, if_pos e4]
            · rw [if_neg e4, if_neg e4, if_neg (by omega), if_neg (by omega)]
/-- a digest, the first j bytes taken -/
def upD (f : Nat → Nat) (j : Nat) : Vector Nat 32 := sumD fun i => if i < j then f i else 0
set_option maxHeartbeats 2000000 in
theorem in_set6 (k l s : Int) (t : Nat) (h : Int) (a : Nat) (f : Nat → Nat) (j : Nat) (hj : j < 32) : (inC ⟨k, l, s, t, h, (a, upD f j)⟩).setIfInBounds (6 + j) (.int .u8 ((f j : Nat) : Int)) = inC ⟨k, l, s, t, h, (a, upD f (j + 1))⟩ := by
  unfold inC
  rw [va_set]
  refine va_congr fun i hi => ?_
  unfold upd inF tiF rfF
  by_cases e : i = 6 + j
  · subst e
    rw [if_pos rfl, if_neg (by omega), if_neg (by omega), if_neg (by omega), if_neg (by omega), if_neg (by omega), if_neg (by omega)]
    refine congrArg (fun n : Nat => Value.int .u8 ((n : Nat) : Int)) ?_
    show f j = dF (upD f (j + 1)) (6 + j - 4 - 1 - 1)
    unfold upD
    rw [dF_sumD _ _ (by omega), if_pos (by omega), show 6 + j - 4 - 1 - 1 = j by omega]
  · rw [if_neg e]
    by_cases e0 : i = 0
    · rw [if_pos e0, if_pos e0]
    · rw [if_neg e0, if_neg e0]
      by_cases e1 : i = 1
      · rw [if_pos e1, if_pos e1]
      · rw [if_neg e1, if_neg e1]
        by_cases e2 : i = 2
        · rw [if_pos e2, if_pos e2]
        · rw [if_neg e2, if_neg e2]
          by_cases e3 : i = 3
          · rw [if_pos e3, if_pos e3]
          · rw [if_neg e3, if_neg e3]
            by_cases e4 : i - 4 = 0
            · rw [if_pos e4, if_pos e4]
            · rw [if_neg e4, if_neg e4]
              by_cases e5 : i - 4 - 1 = 0
              · rw [if_pos e5, if_pos e5]
              · rw [if_neg e5, if_neg e5]
                refine congrArg (fun n : Nat => Value.int .u8 ((n : Nat) : Int)) ?_
                show dF (upD f j) (i - 4 - 1 - 1) = dF (upD f (j + 1)) (i - 4 - 1 - 1)
                unfold upD
                rw [dF_sumD _ _ (by omega), dF_sumD _ _ (by omega)]
                by_cases q : i - 4 - 1 - 1 < j
                · rw [if_pos q, if_pos (by omega)]
                · rw [if_neg q, if_neg (by omega)]
theorem upD_zero (f : Nat → Nat) : upD f 0 = Vector.replicate 32 0 := by
  refine dF_inj fun i hi => ?_
  unfold upD
  rw [dF_sumD _ _ hi, if_neg (by omega)]
  unfold dF
  simp [hi]
theorem upD_all (f : Nat → Nat) : upD f 32 = sumD f := by
  refine dF_inj fun i hi => ?_
  unfold upD
  rw [dF_sumD _ _ hi, dF_sumD _ _ hi, if_pos hi]
theorem wrap_u32a (i : Nat) (h : i < 4294967296) : IntKind.u32.wrap (i : Int) = (i : Int) := by
  unfold IntKind.wrap
  simp only [IntKind.bits, IntKind.signed]
  have : ((i : Int)) % (2 ^ 32) = (i : Int) := by omega
  simp [this]
  omega
set_option maxHeartbeats 2000000 in
theorem built_X0 (k l s t : Nat) : Try.prog.built 44 [(0, .int .i64 (k : Int)), (1, .int .i64 (l : Int)), (2, .int .i64 (s : Int)), (3, .int .u64 (t : Int))] = some (inC ⟨k, l, s, t, 0, rf0⟩) := by kernel_rfl
end Go.Proofs.Ytpoaipoadokggaa

namespace Go.Proofs.Ytpoaipoadokggaa
set_option maxRecDepth 20000
open Go Go.RowKit
set_option linter.unusedVariables false
set_option linter.unusedSimpArgs false
def rdeA (s : ByteArray) (B : Nat) (v : World) (z k l0 t : Nat) (X0 : Ino) (l : Array Bool) (a : Act) (W : World) : Prop :=
  ∃ (x5 x21 x22 x25 x26 x31 x32 : Value) (g : Nat), a = ({ tmps := #[Value.string s, undef, Value.pointer (some ⟨B, 0, none⟩), Value.bool false, Value.int .u64 (z : Int), x5, undef, undef, undef, Value.string s, Value.int .i64 64, Value.bool false, undef, Value.string s, Value.string (s.extract 8 16), Value.int .u64 (z : Int), Value.int .u64 (z : Int), Value.bool (decide ((1048576 : Int) < (z : Int))), undef, Value.string s, Value.string (s.extract 0 2), x21, x22, Value.string s, Value.string (s.extract 2 4), x25, x26, Value.int .u64 (z : Int), Value.int .i64 (z : Int), Value.string s, Value.string (s.extract 16 24), x31, x32, undef, undef, undef, undef, undef, undef, undef, undef, undef, undef, undef, undef, undef, undef, undef, undef, undef, undef, undef, undef, undef, undef, undef, undef, undef, undef, undef, undef, undef, undef, undef, undef, undef, undef, undef, undef, undef, undef, undef, undef], defers := [] } : Act) ∧ Hid (l.size = 16 ∧ Below v.heap.size v W ∧ (l.getD 2 false = true → x21 = .int .u64 (k : Int)) ∧ (l.getD 3 false = true → x22 = .int .i64 (k : Int)) ∧ (l.getD 6 false = true → x25 = .int .u64 (l0 : Int)) ∧ (l.getD 7 false = true → x26 = .int .i64 (l0 : Int)) ∧ (l.getD 12 false = true → x31 = .int .u64 (t : Int)) ∧ (l.getD 13 false = true → x32 = .agg (inC X0)) ∧
    (l.getD 14 false = true → x5 = .pointer (some ⟨g, 0, none⟩) ∧ v.heap.size ≤ g ∧ Blk W g 44 (inC (if l.getD 15 false then X0 else in0))))
set_option maxHeartbeats 16000000 in
theorem rdecode_in (s : ByteArray) (h64 : s.size = 64) (h8 : at8 s 8 ≤ 1048576) (w : World) : Calls Try.prog 13 #[.string s] w fun e w' => e = .returned (.tuple #[.agg (inC (decV s)), .bool (decOk s)]) ∧ Below w.heap.size w w' := by
  have hz := zero_rino
  have r0 : Blk (w.alloc (.cells (inC in0) 44)) w.heap.size 44 (inC in0) := Blk.new _ _ _
  have HB0 : Hid (Below w.heap.size w (w.alloc (.cells (inC in0) 44)) ∧ w.heap.size < (w.alloc (.cells (inC in0) 44)).heap.size) := ⟨below_new1 _ _, by simp⟩
  have z64 : (s.size : Int) = 64 := by omega
  have HC8 : Hid (∀ w : World, Calls Try.prog 33 #[.string (s.extract 8 16)] w fun e w' => e = .returned (.int .u64 (at8 s 8 : Int)) ∧ w' = w) := fun w => by
    have := value_any (s.extract 8 16) (by rw [extract_size s 8 16 (by omega)]; omega) w
    rw [show vN (s.extract 8 16) (s.extract 8 16).size = at8 s 8 from part_at8 s 8 (by omega)] at this
    exact this
  have HC16 : Hid (∀ w : World, Calls Try.prog 33 #[.string (s.extract 16 24)] w fun e w' => e = .returned (.int .u64 (at8 s 16 : Int)) ∧ w' = w) := fun w => by
    have := value_any (s.extract 16 24) (by rw [extract_size s 16 24 (by omega)]; omega) w
    rw [show vN (s.extract 16 24) (s.extract 16 24).size = at8 s 16 from part_at8 s 16 (by omega)] at this
    exact this
  have HC0 : Hid (∀ w : World, Calls Try.prog 33 #[.string (s.extract 0 2)] w fun e w' => e = .returned (.int .u64 (at2 s 0 : Int)) ∧ w' = w) := fun w => by
    have := value_any (s.extract 0 2) (by rw [extract_size s 0 2 (by omega)]; omega) w
    rw [show vN (s.extract 0 2) (s.extract 0 2).size = at2 s 0 from part_at2 s 0 (by omega)] at this
    exact this
  have HC2 : Hid (∀ w : World, Calls Try.prog 33 #[.string (s.extract 2 4)] w fun e w' => e = .returned (.int .u64 (at2 s 2 : Int)) ∧ w' = w) := fun w => by
    have := value_any (s.extract 2 4) (by rw [extract_size s 2 4 (by omega)]; omega) w
    rw [show vN (s.extract 2 4) (s.extract 2 4).size = at2 s 2 from part_at2 s 2 (by omega)] at this
    exact this
  have HC4 : Hid (∀ w : World, Calls Try.prog 33 #[.string (s.extract 4 6)] w fun e w' => e = .returned (.int .u64 (at2 s 4 : Int)) ∧ w' = w) := fun w => by
    have := value_any (s.extract 4 6) (by rw [extract_size s 4 6 (by omega)]; omega) w
    rw [show vN (s.extract 4 6) (s.extract 4 6).size = at2 s 4 from part_at2 s 4 (by omega)] at this
    exact this
  have HC24 : Hid (∀ w : World, Calls Try.prog 33 #[.string (s.extract 24 28)] w fun e w' => e = .returned (.int .u64 (at4 s 24 : Int)) ∧ w' = w) := fun w => by
    have := value_any (s.extract 24 28) (by rw [extract_size s 24 28 (by omega)]; omega) w
    rw [show vN (s.extract 24 28) (s.extract 24 28).size = at4 s 24 from part_at4 s 24 (by omega)] at this
    exact this
  have HDS : Hid (decOk s = (chk (rpr s) && decide (strN (inB (rpr s)) 64 = s)) ∧ decV s = if (chk (rpr s) && decide (strN (inB (rpr s)) 64 = s)) = true then rpr s else in0) := dec_same s h64 h8
  have HPW : Hid (InW (rpr s)) := rpr_w s h8
  have HPR : Hid (rpr s = ⟨(at2 s 0 : Nat), (at2 s 2 : Nat), (at8 s 8 : Nat), at8 s 16, (at2 s 4 : Nat), (at4 s 24, upD (fun i => tbyte s (28 + i)) 32)⟩) := by
    show rpr s = _
    rw [upD_all]
    rfl
  have k1 := at2_lt s 0
  have k2 := at2_lt s 2
  have k3 := at2_lt s 4
  have k4 := at4_lt s 24
  have hb8 : ¬ ((1048576 : Int) < ((at8 s 8 : Nat) : Int)) := by omega
  generalize decOk s = DO at *
  generalize decV s = DV at *
  generalize rpr s = X at *
  generalize at8 s 8 = z at *
  generalize at2 s 0 = k at *
  generalize at2 s 2 = l0 at *
  generalize at2 s 4 = h0 at *
  generalize at8 s 16 = t at *
  generalize at4 s 24 = n4 at *
  have v1 : IntKind.i64.wrap (k : Int) = (k : Int) := wrapI64_id _ (by omega) (by omega)
  have v2 : IntKind.i64.wrap (l0 : Int) = (l0 : Int) := wrapI64_id _ (by omega) (by omega)
  have v3 : IntKind.i64.wrap (h0 : Int) = (h0 : Int) := wrapI64_id _ (by omega) (by omega)
  have v4 : IntKind.i64.wrap (z : Int) = (z : Int) := wrapI64_id _ (by omega) (by omega)
  have v5 : IntKind.u32.wrap (n4 : Int) = (n4 : Int) := wrap_u32a n4 k4
  have hbX := built_X0 k l0 z t
  obtain ⟨X0, hX0⟩ : ∃ X0 : Ino, X0 = ⟨k, l0, z, t, 0, rf0⟩ := ⟨_, rfl⟩
  rw [← hX0] at hbX
  have HX0 : Hid (X0 = ⟨k, l0, z, t, 0, rf0⟩) := hX0
  clear hX0
  go_enter Try.func13, Try.ntmps13
  go_wp2_with (first | (go_at_call 33; refine (HC8.out _).mono ?_; intro e w2 hw2; obtain ⟨he2, hb2⟩ := hw2; subst he2 hb2) | fail)
  generalize (w.alloc (.cells (inC in0) 44)) = v at *
  refine wp_region_mach (fun W => v.heap.size ≤ W.heap.size) (fun i l => match i with | 2 => true | 3 => l.getD 2 false | 6 => true | 7 => l.getD 6 false | 12 => true | 13 => l.getD 3 false && l.getD 7 false && l.getD 12 false | 14 => !l.getD 14 false && !l.getD 15 false | 15 => l.getD 13 false && l.getD 14 false | _ => false)
    (fun l => l.getD 14 false && l.getD 15 false) [0, 1, 4, 5, 8, 9, 10, 11] 8 (rdeA s w.heap.size v z k l0 t X0) (by kernel_rfl) (by kernel_rfl) (Nat.le_refl _) ?_ ?_ ?_
  · refine ⟨_, Value.string s, rfl, Or.inl ⟨by rfl, fun W hW => by go_simp⟩, ?_⟩
    simp only [Act.put, List.getElem_toArray, List.getElem_cons_zero, List.getElem_cons_succ, List.setIfInBounds_toArray, List.set_cons_zero, List.set_cons_succ]
    refine ⟨_, Value.string (s.extract 0 2), rfl, Or.inl ⟨by rfl, fun W hW => by go_simp⟩, ?_⟩
    simp only [Act.put, List.getElem_toArray, List.getElem_cons_zero, List.getElem_cons_succ, List.setIfInBounds_toArray, List.set_cons_zero, List.set_cons_succ]
    refine ⟨_, Value.string s, rfl, Or.inl ⟨by rfl, fun W hW => by go_simp⟩, ?_⟩
    simp only [Act.put, List.getElem_toArray, List.getElem_cons_zero, List.getElem_cons_succ, List.setIfInBounds_toArray, List.set_cons_zero, List.set_cons_succ]
    refine ⟨_, Value.string (s.extract 2 4), rfl, Or.inl ⟨by rfl, fun W hW => by go_simp⟩, ?_⟩
    simp only [Act.put, List.getElem_toArray, List.getElem_cons_zero, List.getElem_cons_succ, List.setIfInBounds_toArray, List.set_cons_zero, List.set_cons_succ]
    refine ⟨_, Value.int .u64 (z : Int), rfl, Or.inl ⟨by rfl, fun W hW => by go_simp⟩, ?_⟩
    simp only [Act.put, List.getElem_toArray, List.getElem_cons_zero, List.getElem_cons_succ, List.setIfInBounds_toArray, List.set_cons_zero, List.set_cons_succ]
    refine ⟨_, Value.int .i64 (z : Int), rfl, Or.inl ⟨by rfl, fun W hW => by go_simp⟩, ?_⟩
    simp only [Act.put, List.getElem_toArray, List.getElem_cons_zero, List.getElem_cons_succ, List.setIfInBounds_toArray, List.set_cons_zero, List.set_cons_succ]
    refine ⟨_, Value.string s, rfl, Or.inl ⟨by rfl, fun W hW => by go_simp⟩, ?_⟩
    simp only [Act.put, List.getElem_toArray, List.getElem_cons_zero, List.getElem_cons_succ, List.setIfInBounds_toArray, List.set_cons_zero, List.set_cons_succ]
    refine ⟨_, Value.string (s.extract 16 24), rfl, Or.inl ⟨by rfl, fun W hW => by go_simp⟩, ?_⟩
    simp only [Act.put, List.getElem_toArray, List.getElem_cons_zero, List.getElem_cons_succ, List.setIfInBounds_toArray, List.set_cons_zero, List.set_cons_succ]
    exact ⟨undef, undef, undef, undef, undef, undef, undef, 0, rfl, rfl, (Below.refl _ _).drew, fun h => absurd (show false = true from h) (by decide), fun h => absurd (show false = true from h) (by decide), fun h => absurd (show false = true from h) (by decide), fun h => absurd (show false = true from h) (by decide), fun h => absurd (show false = true from h) (by decide), fun h => absurd (show false = true from h) (by decide), fun h => absurd (show false = true from h) (by decide)⟩
  · intro j l a W hp hR
    obtain ⟨x5, x21, x22, x25, x26, x31, x32, g, rfl, H⟩ := hR
    have hj : j = 2 ∨ j = 3 ∨ j = 6 ∨ j = 7 ∨ j = 12 ∨ j = 13 ∨ j = 14 ∨ j = 15 := by
      split at hp <;> simp_all
    obtain ⟨hsz, hbel, f2, f3, f6, f7, f12, f13, f14⟩ := H.out
    have hvW : v.heap.size ≤ W.heap.size := hbel.size
    clear H
    rcases hj with rfl | rfl | rfl | rfl | rfl | rfl | rfl | rfl
    · clear hp
      simp only [List.cons_append, List.nil_append, List.append_nil, List.filterMap_cons, List.filterMap_nil, List.getElem?_toArray, List.getElem?_cons_zero, List.getElem?_cons_succ]
      have HR : Hid (_ ∧ _ ∧ _ ∧ _ ∧ _ ∧ _ ∧ _ ∧ _ ∧ _) := ⟨hsz, hbel, f2, f3, f6, f7, f12, f13, f14⟩
      clear hsz hbel f2 f3 f6 f7 f12 f13 f14
      go_wp2_with fail
      refine (HC0.out _).mono ?_
      intro e w3 hw3
      obtain ⟨he3, hb3⟩ := hw3
      subst he3 hb3
      go_wp2_with fail
      obtain ⟨hsz, hbel, f2, f3, f6, f7, f12, f13, f14⟩ := HR.out
      refine ⟨rfl, hvW, x5, _, x22, x25, x26, x31, x32, g, rfl, ?_⟩
      exact ⟨by simpa using hsz, hbel, fun _ => rfl, fun h => by rw [gs_ne (by decide)] at h; exact f3 h, fun h => by rw [gs_ne (by decide)] at h; exact f6 h, fun h => by rw [gs_ne (by decide)] at h; exact f7 h, fun h => by rw [gs_ne (by decide)] at h; exact f12 h, fun h => by rw [gs_ne (by decide)] at h; exact f13 h, fun h => by rw [gs_ne (by decide)] at h; rw [gs_ne (by decide)]; exact f14 h⟩
    · obtain rfl := f2 hp
      clear hp
      simp only [List.cons_append, List.nil_append, List.append_nil, List.filterMap_cons, List.filterMap_nil, List.getElem?_toArray, List.getElem?_cons_zero, List.getElem?_cons_succ]
      have HR : Hid (_ ∧ _ ∧ _ ∧ _ ∧ _ ∧ _ ∧ _ ∧ _ ∧ _) := ⟨hsz, hbel, f2, f3, f6, f7, f12, f13, f14⟩
      clear hsz hbel f2 f3 f6 f7 f12 f13 f14
      go_wp2_with fail
      obtain ⟨hsz, hbel, f2, f3, f6, f7, f12, f13, f14⟩ := HR.out
      refine ⟨rfl, hvW, x5, _, _, x25, x26, x31, x32, g, rfl, ?_⟩
      exact ⟨by simpa using hsz, hbel, fun _ => rfl, fun _ => rfl, fun h => by rw [gs_ne (by decide)] at h; exact f6 h, fun h => by rw [gs_ne (by decide)] at h; exact f7 h, fun h => by rw [gs_ne (by decide)] at h; exact f12 h, fun h => by rw [gs_ne (by decide)] at h; exact f13 h, fun h => by rw [gs_ne (by decide)] at h; rw [gs_ne (by decide)]; exact f14 h⟩
    · clear hp
      simp only [List.cons_append, List.nil_append, List.append_nil, List.filterMap_cons, List.filterMap_nil, List.getElem?_toArray, List.getElem?_cons_zero, List.getElem?_cons_succ]
      have HR : Hid (_ ∧ _ ∧ _ ∧ _ ∧ _ ∧ _ ∧ _ ∧ _ ∧ _) := ⟨hsz, hbel, f2, f3, f6, f7, f12, f13, f14⟩
      clear hsz hbel f2 f3 f6 f7 f12 f13 f14
      go_wp2_with fail
      refine (HC2.out _).mono ?_
      intro e w3 hw3
      obtain ⟨he3, hb3⟩ := hw3
      subst he3 hb3
      go_wp2_with fail
      obtain ⟨hsz, hbel, f2, f3, f6, f7, f12, f13, f14⟩ := HR.out
      refine ⟨rfl, hvW, x5, x21, x22, _, x26, x31, x32, g, rfl, ?_⟩
      exact ⟨by simpa using hsz, hbel, fun h => by rw [gs_ne (by decide)] at h; exact f2 h, fun h => by rw [gs_ne (by decide)] at h; exact f3 h, fun _ => rfl, fun h => by rw [gs_ne (by decide)] at h; exact f7 h, fun h => by rw [gs_ne (by decide)] at h; exact f12 h, fun h => by rw [gs_ne (by decide)] at h; exact f13 h, fun h => by rw [gs_ne (by decide)] at h; rw [gs_ne (by decide)]; exact f14 h⟩
    · obtain rfl := f6 hp
      clear hp
      simp only [List.cons_append, List.nil_append, List.append_nil, List.filterMap_cons, List.filterMap_nil, List.getElem?_toArray, List.getElem?_cons_zero, List.getElem?_cons_succ]
      have HR : Hid (_ ∧ _ ∧ _ ∧ _ ∧ _ ∧ _ ∧ _ ∧ _ ∧ _) := ⟨hsz, hbel, f2, f3, f6, f7, f12, f13, f14⟩
      clear hsz hbel f2 f3 f6 f7 f12 f13 f14
      go_wp2_with fail
      obtain ⟨hsz, hbel, f2, f3, f6, f7, f12, f13, f14⟩ := HR.out
      refine ⟨rfl, hvW, x5, x21, x22, _, _, x31, x32, g, rfl, ?_⟩
      exact ⟨by simpa using hsz, hbel, fun h => by rw [gs_ne (by decide)] at h; exact f2 h, fun h => by rw [gs_ne (by decide)] at h; exact f3 h, fun _ => rfl, fun _ => rfl, fun h => by rw [gs_ne (by decide)] at h; exact f12 h, fun h => by rw [gs_ne (by decide)] at h; exact f13 h, fun h => by rw [gs_ne (by decide)] at h; rw [gs_ne (by decide)]; exact f14 h⟩
    · clear hp
      simp only [List.cons_append, List.nil_append, List.append_nil, List.filterMap_cons, List.filterMap_nil, List.getElem?_toArray, List.getElem?_cons_zero, List.getElem?_cons_succ]
      have HR : Hid (_ ∧ _ ∧ _ ∧ _ ∧ _ ∧ _ ∧ _ ∧ _ ∧ _) := ⟨hsz, hbel, f2, f3, f6, f7, f12, f13, f14⟩
      clear hsz hbel f2 f3 f6 f7 f12 f13 f14
      go_wp2_with fail
      refine (HC16.out _).mono ?_
      intro e w3 hw3
      obtain ⟨he3, hb3⟩ := hw3
      subst he3 hb3
      go_wp2_with fail
      obtain ⟨hsz, hbel, f2, f3, f6, f7, f12, f13, f14⟩ := HR.out
      refine ⟨rfl, hvW, x5, x21, x22, x25, x26, _, x32, g, rfl, ?_⟩
      exact ⟨by simpa using hsz, hbel, fun h => by rw [gs_ne (by decide)] at h; exact f2 h, fun h => by rw [gs_ne (by decide)] at h; exact f3 h, fun h => by rw [gs_ne (by decide)] at h; exact f6 h, fun h => by rw [gs_ne (by decide)] at h; exact f7 h, fun _ => rfl, fun h => by rw [gs_ne (by decide)] at h; exact f13 h, fun h => by rw [gs_ne (by decide)] at h; rw [gs_ne (by decide)]; exact f14 h⟩
    · simp only [Bool.and_eq_true] at hp
      obtain rfl := f3 hp.1.1
      obtain rfl := f7 hp.1.2
      obtain rfl := f12 hp.2
      clear hp
      simp only [List.cons_append, List.nil_append, List.append_nil, List.filterMap_cons, List.filterMap_nil, List.getElem?_toArray, List.getElem?_cons_zero, List.getElem?_cons_succ]
      have HR : Hid (_ ∧ _ ∧ _ ∧ _ ∧ _ ∧ _ ∧ _ ∧ _ ∧ _) := ⟨hsz, hbel, f2, f3, f6, f7, f12, f13, f14⟩
      clear hsz hbel f2 f3 f6 f7 f12 f13 f14
      refine wpList_build4 (by rfl) 44 _ _ _ _ (by rfl) (.int .i64 (k : Int)) (.int .i64 (l0 : Int)) (.int .i64 (z : Int)) (.int .u64 (t : Int)) (by rfl) (by rfl) (by rfl) (by rfl) (inC X0) hbX ?_
      simp only [Act.put, List.setIfInBounds_toArray, List.set_cons_zero, List.set_cons_succ]
      go_wp2_with fail
      obtain ⟨hsz, hbel, f2, f3, f6, f7, f12, f13, f14⟩ := HR.out
      refine ⟨rfl, hvW, x5, x21, _, x25, _, _, _, g, rfl, ?_⟩
      exact ⟨by simpa using hsz, hbel, fun h => by rw [gs_ne (by decide)] at h; exact f2 h, fun _ => rfl, fun h => by rw [gs_ne (by decide)] at h; exact f6 h, fun _ => rfl, fun _ => rfl, fun _ => rfl, fun h => by rw [gs_ne (by decide)] at h; rw [gs_ne (by decide)]; exact f14 h⟩
    · simp only [Bool.and_eq_true, Bool.not_eq_true'] at hp
      have hp15 := hp.2
      simp only [List.cons_append, List.nil_append, List.append_nil, List.filterMap_cons, List.filterMap_nil, List.getElem?_toArray, List.getElem?_cons_zero, List.getElem?_cons_succ]
      have HR : Hid (_ ∧ _ ∧ _ ∧ _ ∧ _ ∧ _ ∧ _ ∧ _ ∧ _) := ⟨hsz, hbel, f2, f3, f6, f7, f12, f13, f14⟩
      clear hsz hbel f2 f3 f6 f7 f12 f13 f14
      go_wp2_with fail
      obtain ⟨hsz, hbel, f2, f3, f6, f7, f12, f13, f14⟩ := HR.out
      refine ⟨rfl, by simp; omega, _, x21, x22, x25, x26, x31, x32, W.heap.size, rfl, ?_⟩
      exact ⟨by simpa using hsz, hbel.alloc hbel.size _, fun h => by rw [gs_ne (by decide)] at h; exact f2 h, fun h => by rw [gs_ne (by decide)] at h; exact f3 h, fun h => by rw [gs_ne (by decide)] at h; exact f6 h, fun h => by rw [gs_ne (by decide)] at h; exact f7 h, fun h => by rw [gs_ne (by decide)] at h; exact f12 h, fun h => by rw [gs_ne (by decide)] at h; exact f13 h, fun _ => ⟨rfl, hvW, by rw [gs_ne (by decide), hp15]; exact Blk.new _ _ _⟩⟩
    · simp only [Bool.and_eq_true] at hp
      obtain rfl := f13 hp.1
      obtain ⟨rfl, hgl, hblk⟩ := f14 hp.2
      simp only [List.cons_append, List.nil_append, List.append_nil, List.filterMap_cons, List.filterMap_nil, List.getElem?_toArray, List.getElem?_cons_zero, List.getElem?_cons_succ]
      have HR : Hid (_ ∧ _ ∧ _ ∧ _ ∧ _ ∧ _ ∧ _ ∧ _) := ⟨hsz, hbel, f2, f3, f6, f7, f12, hblk⟩
      clear hsz hbel f2 f3 f6 f7 f12 f13 f14
      refine wpList_store_row (by rfl) 44 _ _ (by rfl) g (inC X0) (by rfl) (by rfl) 44 _ hblk (sizeRIno.trans (by rw [inC_size])) (by simp only [inC_size]) (inC_all _) ?_
      simp only [Act.put, List.setIfInBounds_toArray, List.set_cons_zero, List.set_cons_succ]
      obtain ⟨hsz, hbel, f2, f3, f6, f7, f12, hblk⟩ := HR.out
      refine ⟨rfl, by simpa using hvW, _, x21, x22, x25, x26, x31, _, g, rfl, ?_⟩
      exact ⟨by simpa using hsz, below_setRow hbel hgl _, fun h => by rw [gs_ne (by decide)] at h; exact f2 h, fun h => by rw [gs_ne (by decide)] at h; exact f3 h, fun h => by rw [gs_ne (by decide)] at h; exact f6 h, fun h => by rw [gs_ne (by decide)] at h; exact f7 h, fun h => by rw [gs_ne (by decide)] at h; exact f12 h, fun _ => rfl, fun _ => ⟨rfl, hgl, by rw [gs_eq hsz (by decide)]; exact hblk.set _⟩⟩
  · intro l a W hp hR
    obtain ⟨x5, x21, x22, x25, x26, x31, x32, g, rfl, H⟩ := hR
    simp only [Bool.and_eq_true] at hp
    obtain ⟨hsz, hbel, f2, f3, f6, f7, f12, f13, f14⟩ := H.out
    clear H
    obtain ⟨rfl, hgl, hblk⟩ := f14 hp.1
    rw [hp.2, if_pos rfl] at hblk
    have HZ : Hid (_ ∧ _ ∧ _) := ⟨hbel, hblk, hgl⟩
    clear f2 f3 f6 f7 f12 f13 f14 hsz hp l hbel hblk hgl
    refine ⟨rfl, ?_⟩
    have HW : Hid (Below w.heap.size w W ∧ Blk W w.heap.size 44 (inC in0) ∧ w.heap.size < g) := ⟨HB0.out.1.trans (HZ.out.1.mono (by have := HB0.out.2; omega)), r0.below HZ.out.1 HB0.out.2, Nat.lt_of_lt_of_le HB0.out.2 HZ.out.2.2⟩
    have q1 : Blk W g 44 (inC ⟨k, l0, z, t, 0, rf0⟩) := by rw [← HX0.out]; exact HZ.out.2.1
    clear HZ HX0 hbX HB0 r0
    have f1 : W.frozen? ⟨g, 4, none⟩ = false := q1.frozen 4
    have e1 : W.cell? ⟨g, 4, none⟩ = some (.int .i64 0) := ino_c4 q1
    go_wp2_with fail
    refine (HC4.out _).mono ?_
    intro e w2 hw2
    obtain ⟨he2, hb2⟩ := hw2
    subst he2 hb2
    go_wp2_with fail
    have q2 : Blk (w2.setCell ⟨g, 4, none⟩ (.int .i64 (h0 : Int))) g 44 (inC ⟨k, l0, z, t, h0, rf0⟩) := by
      have := q1.put 4 (.int .i64 (h0 : Int))
      rwa [in_set4] at this
    have HW2 : Hid (Below w.heap.size w (w2.setCell ⟨g, 4, none⟩ (.int .i64 (h0 : Int))) ∧ Blk (w2.setCell ⟨g, 4, none⟩ (.int .i64 (h0 : Int))) w.heap.size 44 (inC in0) ∧ w.heap.size < g) := ⟨HW.out.1.setCell (by show w.heap.size ≤ g; have := HW.out.2.2; omega) _, HW.out.2.1.put_other _ _ (by have := HW.out.2.2; omega), HW.out.2.2⟩
    clear q1 f1 e1 HW
    generalize w2.setCell ⟨g, 4, none⟩ (.int .i64 (h0 : Int)) = W3 at *
    have f1 : W3.frozen? ⟨g, 5, none⟩ = false := q2.frozen 5
    have e1 : W3.cell? ⟨g, 5, none⟩ = some (.int .u32 0) := ino_c5 q2
    refine (HC24.out _).mono ?_
    intro e w4 hw4
    obtain ⟨he4, hb4⟩ := hw4
    subst he4 hb4
    go_wp2_with fail
    have q3 : Blk (w4.setCell ⟨g, 5, none⟩ (.int .u32 (n4 : Int))) g 44 (inC ⟨k, l0, z, t, h0, (n4, upD (fun i => tbyte s (28 + i)) 0)⟩) := by
      have := q2.put 5 (.int .u32 (n4 : Int))
      rw [show rf0 = (0, upD (fun i => tbyte s (28 + i)) 0) from by rw [upD_zero]; rfl, in_set5] at this
      exact this
    have HW3 : Hid (Below w.heap.size w (w4.setCell ⟨g, 5, none⟩ (.int .u32 (n4 : Int))) ∧ Blk (w4.setCell ⟨g, 5, none⟩ (.int .u32 (n4 : Int))) w.heap.size 44 (inC in0)) := ⟨HW2.out.1.setCell (by show w.heap.size ≤ g; have := HW2.out.2.2; omega) _, HW2.out.2.1.put_other _ _ (by have := HW2.out.2.2; omega)⟩
    have hwg : w.heap.size < g := HW2.out.2.2
    clear q2 f1 e1 HW2 HC0 HC2 HC4 HC8 HC16 HC24
    generalize w4.setCell ⟨g, 5, none⟩ (.int .u32 (n4 : Int)) = W5 at *
    go_loopw [6] (fun i wr => Hid (∃ j : Nat, j ≤ 32 ∧ i = .int .i64 (j : Int) ∧ Blk wr g 44 (inC ⟨k, l0, z, t, h0, (n4, upD (fun i => tbyte s (28 + i)) j)⟩) ∧ Blk wr w.heap.size 44 (inC in0) ∧ Below w.heap.size w wr)) (fun i _ => 32 - (intOf i).toNat)
    case atStart => exact ⟨0, by omega, rfl, q3, HW3.out.2, HW3.out.1⟩
    case round =>
      obtain ⟨j, hj, rfl, hq, hr, hbel⟩ := Hid.out hrel
      clear hrel q3 HW3
      by_cases hlt : j < 32
      · have j1 : (j : Int) < 32 := by omega
        have j2 : (28 : Int) + (j : Int) < 64 := by omega
        have j3 : ((28 : Int) + (j : Int)).toNat = 28 + j := by omega
        have j4 : 28 + j < s.size := by omega
        have HT : Hid (tbyte s (28 + j) = s[28 + j].toNat) := tbyte_get s _ j4
        have f1 : wr.frozen? ⟨g, 6 + j, none⟩ = false := hq.frozen _
        obtain ⟨old, e1⟩ : ∃ old : Value, wr.cell? ⟨g, 6 + j, none⟩ = some old := ⟨_, by rw [hq.cell]; exact va_at (inF _) (by omega)⟩
        go_wp2_with fail
        refine ⟨⟨j + 1, by omega, by simp, ?_, hr.put_other _ _ (by omega), hbel.setCell (by show w.heap.size ≤ g; omega) _⟩, ?_⟩
        · have h6 := hq.put (6 + j) (.int .u8 (((fun i => tbyte s (28 + i)) j : Nat) : Int))
          rw [in_set6 _ _ _ _ _ _ (fun i => tbyte s (28 + i)) j hlt] at h6
          rw [← HT.out]
          exact h6
        · simp [intOf]; omega
      · have e : j = 32 := by omega
        subst e
        have q9 : Blk wr g 44 (inC X) := by rw [HPR.out]; exact hq
        have HB9 : Hid (Below w.heap.size w wr ∧ Blk wr w.heap.size 44 (inC in0)) := ⟨hbel, hr⟩
        clear hq hr hbel HPR
        go_wp2_with (first
          | (refine wpList_load_row (by rfl) 44 _ (by rfl) g (by rfl) 44 (inC X) (0, 0) _ (by exact q9) Try.underlying44 (by rfl) (sizeRIno.trans (by rw [inC_size])) ?_; simp only [Act.put, List.setIfInBounds_toArray, List.set_cons_zero, List.set_cons_succ])
          | fail)
        cases hc : chk X
        · refine (rencode_no X HPW.out hc _).mono ?_
          intro e w5 hw5
          obtain ⟨he5, hb5⟩ := hw5
          subst he5
          have d0 : Blk w5 w.heap.size 44 (inC in0) := HB9.out.2.below hb5 HB9.out.2.lt
          have HBA : Hid (Below w.heap.size w w5) := HB9.out.1.trans (hb5.mono HB9.out.1.size)
          have HF : Hid (DV = in0 ∧ DO = false) := by
            have h1 := HDS.out
            rw [hc] at h1
            exact ⟨h1.2, h1.1⟩
          clear hb5 HB9 HDS q9
          go_wp2_with (first
            | (refine wpList_store_row (by rfl) 44 _ _ (by rfl) (w.heap.size) (inC in0) (by rfl) (by rfl) 44 (inC in0) (by exact d0) (sizeRIno.trans (by rw [inC_size])) (by simp only [inC_size]) (inC_all _) ?_; simp only [Act.put, List.setIfInBounds_toArray, List.set_cons_zero, List.set_cons_succ])
            | fail)
          try simp only [Exit.inBlock, Exit.then]
          refine bodyPost_ret (results_row2 Try.results13 _ _ (w.heap.size) 44 (inC in0) (0, 0) _ rfl (d0.set _) Try.underlying44 rfl (sizeRIno.trans (by rw [inC_size]))) rfl ?_
          exact ⟨by rw [HF.out.1, HF.out.2]; rfl, below_setRow HBA.out (Nat.le_refl _) _⟩
        · refine (rencode_ok X HPW.out hc _).mono ?_
          intro e w5 hw5
          obtain ⟨he5, hb5⟩ := hw5
          subst he5
          have d0 : Blk w5 w.heap.size 44 (inC in0) := HB9.out.2.below hb5 HB9.out.2.lt
          have d1 : Blk w5 g 44 (inC X) := q9.below hb5 q9.lt
          have HBA : Hid (Below w.heap.size w w5) := HB9.out.1.trans (hb5.mono HB9.out.1.size)
          have HD2 : Hid (DO = decide (strN (inB X) 64 = s) ∧ DV = if decide (strN (inB X) 64 = s) = true then X else in0) := by
            have h1 := HDS.out
            rw [hc, Bool.true_and] at h1
            exact h1
          clear hb5 HB9 HDS q9
          generalize strN (inB X) 64 = tx at *
          by_cases hT : tx = s
          · have HF : Hid (DV = X ∧ DO = true) := by
              have h1 := HD2.out
              rw [decide_eq_true hT] at h1
              exact ⟨h1.2, h1.1⟩
            clear HD2
            subst hT
            go_wp2_with (first
              | (refine wpList_load_row (by rfl) 44 _ (by rfl) g (by rfl) 44 (inC X) (0, 0) _ (by exact d1) Try.underlying44 (by rfl) (sizeRIno.trans (by rw [inC_size])) ?_; simp only [Act.put, List.setIfInBounds_toArray, List.set_cons_zero, List.set_cons_succ])
              | (refine wpList_store_row (by rfl) 44 _ _ (by rfl) (w.heap.size) (inC X) (by rfl) (by rfl) 44 (inC in0) (by exact d0) (sizeRIno.trans (by rw [inC_size])) (by simp only [inC_size]) (inC_all _) ?_; simp only [Act.put, List.setIfInBounds_toArray, List.set_cons_zero, List.set_cons_succ])
              | fail)
            try simp only [Exit.inBlock, Exit.then]
            refine bodyPost_ret (results_row2 Try.results13 _ _ (w.heap.size) 44 (inC X) (0, 0) _ rfl (d0.set _) Try.underlying44 rfl (sizeRIno.trans (by rw [inC_size]))) rfl ?_
            exact ⟨by rw [HF.out.1, HF.out.2]; rfl, below_setRow HBA.out (Nat.le_refl _) _⟩
          · have HF : Hid (DV = in0 ∧ DO = false) := by
              have h1 := HD2.out
              rw [decide_eq_false hT] at h1
              exact ⟨h1.2, h1.1⟩
            have hTl := text_ne hT
            clear HD2
            go_wp2_with (first
              | (refine wpList_store_row (by rfl) 44 _ _ (by rfl) (w.heap.size) (inC in0) (by rfl) (by rfl) 44 (inC in0) (by exact d0) (sizeRIno.trans (by rw [inC_size])) (by simp only [inC_size]) (inC_all _) ?_; simp only [Act.put, List.setIfInBounds_toArray, List.set_cons_zero, List.set_cons_succ])
              | fail)
            try simp only [Exit.inBlock, Exit.then]
            refine bodyPost_ret (results_row2 Try.results13 _ _ (w.heap.size) 44 (inC in0) (0, 0) _ rfl (d0.set _) Try.underlying44 rfl (sizeRIno.trans (by rw [inC_size]))) rfl ?_
            exact ⟨by rw [HF.out.1, HF.out.2]; rfl, below_setRow HBA.out (Nat.le_refl _) _⟩
set_option maxHeartbeats 8000000 in
theorem rdecode_any (s : ByteArray) (hs : s.size ≤ maxLen) (w : World) : Calls Try.prog 13 #[.string s] w fun e w' => e = .returned (.tuple #[.agg (inC (decV s)), .bool (decOk s)]) ∧ Below w.heap.size w w' := by
  unfold maxLen at hs
  have hz := zero_rino
  have r0 : Blk (w.alloc (.cells (inC in0) 44)) w.heap.size 44 (inC in0) := Blk.new _ _ _
  have HB0 : Hid (Below w.heap.size w (w.alloc (.cells (inC in0) 44)) ∧ w.heap.size < (w.alloc (.cells (inC in0) 44)).heap.size) := ⟨below_new1 _ _, by simp⟩
  by_cases h64 : s.size = 64
  · have z64 : (s.size : Int) = 64 := by omega
    have HC8 : Hid (∀ w : World, Calls Try.prog 33 #[.string (s.extract 8 16)] w fun e w' => e = .returned (.int .u64 (at8 s 8 : Int)) ∧ w' = w) := fun w => by
      have h := part_at8 s 8 (by omega)
      have := value_any (s.extract 8 16) (by rw [extract_size s 8 16 (by omega)]; omega) w
      rw [show vN (s.extract 8 16) (s.extract 8 16).size = at8 s 8 from h] at this
      exact this
    by_cases h8 : 1048576 < at8 s 8
    · have h8' : (1048576 : Int) < ((at8 s 8 : Nat) : Int) := by omega
      obtain ⟨d1, d2⟩ := dec_no s (Or.inr h8)
      rw [d1, d2]
      clear d1 d2 h8
      generalize at8 s 8 = z at *
      go_enter Try.func13, Try.ntmps13
      go_wp2_with (first
        | (go_at_call 33; refine (HC8.out _).mono ?_; intro e w2 hw2; obtain ⟨he2, hb2⟩ := hw2; subst he2 hb2)
        | (refine wpList_store_row (by rfl) 44 _ _ (by rfl) (w.heap.size) (inC in0) (by rfl) (by rfl) 44 (inC in0) (by exact r0) (sizeRIno.trans (by rw [inC_size])) (by simp only [inC_size]) (inC_all _) ?_; simp only [Act.put, List.setIfInBounds_toArray, List.set_cons_zero, List.set_cons_succ])
        | fail)
      try simp only [Exit.inBlock, Exit.then]
      refine bodyPost_ret (results_row2 Try.results13 _ _ (w.heap.size) 44 (inC in0) (0, 0) _ rfl (r0.set _) Try.underlying44 rfl (sizeRIno.trans (by rw [inC_size]))) rfl ?_
      exact ⟨rfl, below_setRow HB0.out.1 (Nat.le_refl _) _⟩
    · exact rdecode_in s h64 (by omega) w
  · obtain ⟨d1, d2⟩ := dec_no s (Or.inl h64)
    rw [d1, d2]
    have z64 : ¬ (s.size : Int) = 64 := by omega
    clear d1 d2
    go_enter Try.func13, Try.ntmps13
    go_wp2_with (first
      | (refine wpList_store_row (by rfl) 44 _ _ (by rfl) (w.heap.size) (inC in0) (by rfl) (by rfl) 44 (inC in0) (by exact r0) (sizeRIno.trans (by rw [inC_size])) (by simp only [inC_size]) (inC_all _) ?_; simp only [Act.put, List.setIfInBounds_toArray, List.set_cons_zero, List.set_cons_succ])
      | fail)
    try simp only [Exit.inBlock, Exit.then]
    refine bodyPost_ret (results_row2 Try.results13 _ _ (w.heap.size) 44 (inC in0) (0, 0) _ rfl (r0.set _) Try.underlying44 rfl (sizeRIno.trans (by rw [inC_size]))) rfl ?_
    exact ⟨rfl, below_setRow HB0.out.1 (Nat.le_refl _) _⟩
end Go.Proofs.Ytpoaipoadokggaa

namespace Go.Proofs.Ytpoaipoadokggaa
open Go.ChangeShapes Go.WideShapes Go.ChangeAt Go.RowKit Go.Joins
set_option linter.unusedVariables false

theorem trod_bytes {H : Type} {enc : TypeId × Value → H} {P : Program} {w : World} {base : Nat} {spare : Nat → Bool} {held : Bool} {t e : TypeId} {n fuel : Nat} {cs : List Value} {x : DataW H × List MemPlace} (ht : P.underlying t = some (.array n e)) (he : P.underlying e = some (.int .u8)) (hce : P.cellsOf e = 1)
    (hf : DataW.trod enc P w base spare held fuel t cs = some x) : ∀ i, i < n → ∃ z : Nat, cs[i]? = some (.int .u8 ((z : Nat) : Int)) ∧ z < 256 := by
  obtain ⟨xs, m, rfl, hx, hl, hn, hall⟩ := DataW.trod_array ht hf
  intro i hi
  have h1 := hall i hi
  have hget : xs[i]? = some xs[i] := List.getElem?_eq_getElem (by omega)
  rw [hget, hce, Nat.mul_one] at h1
  obtain ⟨z, hz, hz2, hz3⟩ := DataW.trod_int he h1
  have hb := bounds_u8 hz3
  refine ⟨z.toNat, ?_, by omega⟩
  have h2 : (cs.drop i).head? = some (.int .u8 z) := by
    cases hd : cs.drop i with
    | nil => rw [hd] at hz; simp at hz
    | cons a l => rw [hd] at hz; simp at hz; rw [hz]; rfl
  rw [List.head?_drop] at h2
  rw [h2]
  congr 2
  omega

end Go.Proofs.Ytpoaipoadokggaa

namespace Go.Proofs.Ytpoaipoadokggaa
open Go.ChangeShapes Go.WideShapes Go.ChangeAt Go.RowKit Go.Joins
set_option linter.unusedVariables false
set_option linter.unusedSimpArgs false

theorem nd_take_one {l : List Value} {o : Nat} {v : Value} (h : (l.drop o).take 1 = [v]) : l[o]? = some v := by
  have h2 : (l.drop o).head? = some v := by
    cases hd : l.drop o with
    | nil => rw [hd] at h; simp at h
    | cons a t => rw [hd] at h; simp at h; rw [h]; rfl
  rw [List.head?_drop] at h2
  exact h2
set_option maxRecDepth 100000 in
theorem open_ref_cells {H : Type} {enc : TypeId × Value → H} {W : World} {fuel : Nat} {l : List Value} {x : DataW H × List MemPlace} (hl : l.length = 33)
    (hf : DataW.trod enc Try.prog W 0 (fun _ => true) true fuel 27 l = some x) :
    ∃ r : Rf, l = (rfC r).toList ∧ r.1 < 4294967296 ∧ okD r.2 := by
  have hc4 : Try.prog.cellsOf 23 = 1 := by kernel_rfl
  have hc1 : Try.prog.cellsOf 5 = 1 := by kernel_rfl
  have hcs : Try.prog.cellsOf 25 = 32 := by kernel_rfl
  obtain ⟨zs, k', hk', hzy, _, hzl, hgs⟩ := DataW.trod_struct Try.underlying27 hf
  match zs, hzl with
  | [z0, z1], _ =>
    have q0 : DataW.trod enc Try.prog W 0 (fun _ => true) true k' 23 ((l.drop 0).take (Try.prog.cellsOf 23)) = some z0 := hgs 0 _ rfl
    have q1 : DataW.trod enc Try.prog W 0 (fun _ => true) true k' 25 ((l.drop 1).take (Try.prog.cellsOf 25)) = some z1 := hgs 1 _ rfl
    rw [hc4] at q0
    rw [hcs] at q1
    obtain ⟨a, e1, _, w1⟩ := DataW.trod_int Try.underlying23 q0
    have hby := trod_bytes Try.underlying25 Try.underlying5 hc1 q1
    have b1 := bounds_u32 w1
    have l1 : l[0]? = some (.int .u32 a) := nd_take_one e1
    have l2 : ∀ i, i < 32 → ∃ z : Nat, l[1 + i]? = some (.int .u8 ((z : Nat) : Int)) ∧ z < 256 := fun i hi => by
      obtain ⟨z, h1, h2⟩ := hby i hi
      refine ⟨z, ?_, h2⟩
      rw [List.getElem?_take, if_pos hi, List.getElem?_drop] at h1
      exact h1
    obtain ⟨f, hfz⟩ : ∃ f : Nat → Nat, ∀ i, i < 32 → l[1 + i]? = some (.int .u8 ((f i : Nat) : Int)) ∧ f i < 256 := ⟨fun i => if h : i < 32 then Classical.choose (l2 i h) else 0, fun i hi => by
      simp only [dif_pos hi]
      exact Classical.choose_spec (l2 i hi)⟩
    refine ⟨(a.toNat, sumD f), ?_, by show a.toNat < _; omega, okD_sum f fun i hi => (hfz i hi).2⟩
    apply List.ext_getElem?
    intro i
    by_cases hi : i < 33
    · have hr : (rfC (a.toNat, sumD f)).toList[i]? = some (rfF a.toNat (sumD f) i) := by
        have := va_at (rfF a.toNat (sumD f)) hi
        unfold rfC
        simpa using this
      rw [hr]
      unfold rfF
      by_cases h1 : i = 0
      · subst h1
        rw [if_pos rfl, l1]
        congr 2
        show a = ((a.toNat : Nat) : Int)
        omega
      · rw [if_neg h1]
        have := (hfz (i - 1) (by omega)).1
        rw [show 1 + (i - 1) = i by omega] at this
        rw [this]
        congr 3
        show f (i - 1) = dF (sumD f) (i - 1)
        rw [dF_sumD f _ (by omega)]
    · rw [List.getElem?_eq_none (by omega), List.getElem?_eq_none (by rw [Array.length_toList, rfC_size]; omega)]
end Go.Proofs.Ytpoaipoadokggaa
