/- Inodes in bytes: the program's Encode. -/
import Derived.Test.YtpoaipoadokggaaHIoTake
import Derived.Test.YtpoaipoadokggaaHSegsM
import Derived.BigQuiet
import Derived.Deep.QuietTactic
import Derived.Handy

namespace Go.Proofs.Ytpoaipoadokggaa
set_option maxRecDepth 20000
open Go Go.RowKit
set_option linter.unusedVariables false
set_option linter.unusedSimpArgs false
/-- an inode's bytes -/
def inB (x : Ino) (j : Nat) : Nat :=
  if j < 2 then dig x.k.toNat j else if j < 4 then dig x.l.toNat (j - 2) else if j < 6 then dig x.h.toNat (j - 4) else if j < 8 then 0 else if j < 16 then dig x.s.toNat (j - 8) else if j < 24 then dig x.t (j - 16) else if j < 60 then encR x.r (j - 24) else 0
theorem put_ino (k l h s t : Nat) (r : Rf) (x : Ino) (hk : (k : Int) = x.k) (hl : (l : Int) = x.l) (hh : (h : Int) = x.h) (hs : (s : Int) = x.s) (ht : t = x.t) (hr : r = x.r) (j : Nat) :
    putAt (putAt (putAt (putAt (putAt (putAt (fun _ => 0) 0 2 (dig k)) 2 2 (dig l)) 4 2 (dig h)) 8 8 (dig s)) 16 8 (dig t)) 24 36 (encR r) j = inB x j := by
  have e1 : k = x.k.toNat := by omega
  have e2 : l = x.l.toNat := by omega
  have e3 : h = x.h.toNat := by omega
  have e4 : s = x.s.toNat := by omega
  subst ht hr
  unfold putAt inB
  rw [← e1, ← e2, ← e3, ← e4]
  by_cases h0 : j < 2
  · rw [if_pos h0, if_neg (by omega), if_neg (by omega), if_neg (by omega), if_neg (by omega), if_neg (by omega), if_pos (by omega), Nat.sub_zero]
  · rw [if_neg h0]
    by_cases h1 : j < 4
    · rw [if_pos h1, if_neg (by omega), if_neg (by omega), if_neg (by omega), if_neg (by omega), if_pos (by omega)]
    · rw [if_neg h1]
      by_cases h2 : j < 6
      · rw [if_pos h2, if_neg (by omega), if_neg (by omega), if_neg (by omega), if_pos (by omega)]
      · rw [if_neg h2]
        by_cases h3 : j < 8
        · rw [if_pos h3, if_neg (by omega), if_neg (by omega), if_neg (by omega), if_neg (by omega), if_neg (by omega), if_neg (by omega)]
        · rw [if_neg h3]
          by_cases h4 : j < 16
          · rw [if_pos h4, if_neg (by omega), if_neg (by omega), if_pos (by omega)]
          · rw [if_neg h4]
            by_cases h5 : j < 24
            · rw [if_pos h5, if_neg (by omega), if_pos (by omega)]
            · rw [if_neg h5]
              by_cases h6 : j < 60
              · rw [if_pos h6, if_pos (by omega)]
              · rw [if_neg h6, if_neg (by omega), if_neg (by omega), if_neg (by omega), if_neg (by omega), if_neg (by omega), if_neg (by omega)]
theorem wrap_u16 (i : Nat) (h : i < 65536) : IntKind.u16.wrap (i : Int) = (i : Int) := by
  unfold IntKind.wrap
  simp only [IntKind.bits, IntKind.signed]
  have : ((i : Int)) % (2 ^ 16) = (i : Int) := by omega
  simp [this]
  omega
theorem wrap_u64 (i : Nat) (h : i < 18446744073709551616) : IntKind.u64.wrap (i : Int) = (i : Int) := by
  unfold IntKind.wrap
  simp only [IntKind.bits, IntKind.signed]
  have : ((i : Int)) % (2 ^ 64) = (i : Int) := by omega
  simp [this]
  omega
theorem sizeB2 : (Try.prog.info? 70).map (·.size) = some 2 := by kernel_rfl
theorem sizeB8 : (Try.prog.info? 73).map (·.size) = some 8 := by kernel_rfl
theorem copy_blk {w : World} {ty : TypeId} {g o dLen dCap g2 n sCap N : Nat} {T T2 : TypeId} {p f : Nat → Nat} (hb : Blk w g T (va N (iv .u8 p))) (hb2 : Blk w g2 T2 (va n (iv .u8 f))) (hn : n ≤ dLen) (hfit : o + n ≤ N) :
    (Builtin.copy_ #[32, 32] ty #[.slice (some ⟨g, o, none⟩) dLen dCap, .slice (some ⟨g2, 0, none⟩) n sCap]).run Try.prog w = .ok (goInt n) (w.setRow g (va N (iv .u8 (putAt p o n f)))) := by
  have hl : (byL f n).length = n := byL_length f n
  have h := run_copy_row (P := Try.prog) w 32 32 ty 5 g o dLen dCap ⟨g2, 0, none⟩ n sCap _ T (byL f n) Try.underlying32 ksizeU8 hb (by rw [hl]; show n = min n dLen; omega)
    (fun j v hv => by
      have hj : j < n := by have := (List.getElem?_eq_some_iff.1 hv).1; rw [hl] at this; exact this
      rw [byL_at f n j hj] at hv
      cases hv
      rw [show (⟨g2, 0, none⟩ : Addr).add j = ⟨g2, j, none⟩ from by rcases j with _ | j <;> simp [Addr.add]]
      exact hb2.cv hj) (by rw [hl, va_size]; exact hfit) (mem_iv_one _ _ _)
  rw [hl] at h
  rw [h, ← splice_put N o n p f hfit]
  unfold splice
  rw [hl, List.append_assoc]
theorem gs_eq {l : Array Bool} {i n : Nat} (h : l.size = n) (hi : i < n) : (l.setIfInBounds i true).getD i false = true := by
  simp [Array.getD, h, hi]
theorem gs_ne {l : Array Bool} {i j : Nat} (h : i ≠ j) : (l.setIfInBounds i true).getD j false = l.getD j false := by
  rw [Array.getD_eq_getD_getElem?, Array.getD_eq_getD_getElem?, Array.getElem?_setIfInBounds, if_neg h]
theorem made_one1 (v : Value) (n : Nat) : madeCells #[v] n = va n fun _ => v := by
  refine va_ext (size_madeCells _ _) fun i hi => ?_
  unfold madeCells
  simp [hi, Nat.mod_one]
theorem make_b64 (w : World) : (Instr.makeSlice 32 (.int .i64 64) (.int .i64 64)).run Try.prog w = .ok (.slice (some ⟨w.heap.size, 0, none⟩) 64 64) (w.alloc (.cells (va 64 (iv .u8 fun _ => 0)) 5)) := by
  obtain ⟨i0, hi, hz0, hz1, hz2⟩ := info_parts infoU8k
  have := run_make (P := Try.prog) w 32 5 i0 (.int .u8 0) Try.underlying32 hi hz0 .i64 .i64 64 64 (by omega) (by omega) (by rw [hz2]; omega) (by omega)
  rw [hz1] at this
  simp only [Value.cells, made_one1] at this
  exact this
/-- what may be is small -/
theorem chk_small {x : Ino} (h : chk x = true) : (0 ≤ x.k ∧ x.k ≤ 2) ∧ (0 ≤ x.l ∧ x.l ≤ 1000) ∧ (0 ≤ x.h ∧ x.h ≤ 6) ∧ (0 ≤ x.s ∧ x.s ≤ 1048576) ∧ x.r.1 < 8192 ∧ rOk x.r = true := by
  unfold chk at h
  simp only [Bool.or_eq_true, decide_eq_true_eq, Bool.and_eq_true] at h
  rcases h with rfl | ⟨h1, h2, h3⟩
  · decide
  · unfold siz at h2
    split at h2
    · cases h2
    simp only [Bool.and_eq_true, decide_eq_true_eq] at h2
    unfold tre at h3
    split at h3
    · cases h3
    rename_i hq
    simp only [Bool.or_eq_true, decide_eq_true_eq, Bool.and_eq_true] at h3
    have hh := hL_lt 256 x.s
    have hq1 : x.h = hL 256 x.s := by
      rcases Decidable.em (x.h = hL 256 x.s) with h | h
      · exact h
      · exact absurd (Or.inl h) hq
    have hq2 : x.r.1 < 8192 := by
      rcases Nat.lt_or_ge x.r.1 8192 with h | h
      · exact h
      · exact absurd (Or.inr h) hq
    have hr : rOk x.r = true := by
      unfold rOk
      simp only [Bool.or_eq_true, decide_eq_true_eq]
      rcases h3 with h3 | h3
      · exact Or.inl h3
      · exact Or.inr h3.1
    unfold lnk at h1
    split at h1
    · simp only [Bool.and_eq_true, decide_eq_true_eq] at h1
      exact ⟨by omega, by omega, by omega, h2, hq2, hr⟩
    · split at h1
      · simp only [decide_eq_true_eq] at h1
        exact ⟨by omega, by omega, by omega, h2, hq2, hr⟩
      · cases h1
/-- what has been done of the region with two calls and two boxes -/
def encA (x : Ino) (B : Nat) (v : World) (k l0 : Nat) (l : Array Bool) (a : Act) (W : World) : Prop :=
  ∃ (x5 x6 x19 x23 : Value) (g1 g2 : Nat), a = ({ tmps := #[Value.agg (inC x), Value.pointer (some ⟨B, 0, none⟩), Value.slice none 0 0, Value.int .i64 0, Value.int .i64 0, x5, x6, undef, undef, undef, undef, Value.agg (inC x), Value.int .i64 0, Value.int .i64 0, Value.bool false, undef, Value.pointer (some ⟨B, 0, none⟩), Value.int .i64 (k : Int), Value.int .u16 (k : Int), x19, Value.pointer (some ⟨B, 1, none⟩), Value.int .i64 (l0 : Int), Value.int .u16 (l0 : Int), x23, undef, undef, undef, undef, undef, undef, undef, undef, undef, undef, undef, undef, undef, undef, undef, undef, undef, undef, undef, undef, undef, undef, undef, undef, undef, undef, undef, undef, undef, undef, undef, undef, undef, undef, undef, undef, undef, undef, undef, undef, undef], defers := [] } : Act) ∧ Hid (l.size = 12 ∧ Blk W B 31 (inC x) ∧ Below v.heap.size v W ∧ (l.getD 3 false = true → x19 = .agg (va 2 (iv .u8 (dig k)))) ∧ (l.getD 7 false = true → x23 = .agg (va 2 (iv .u8 (dig l0)))) ∧
    (l.getD 8 false = true → x5 = .pointer (some ⟨g1, 0, none⟩) ∧ v.heap.size ≤ g1 ∧ Blk W g1 70 (va 2 (iv .u8 (if l.getD 10 false then (dig k) else fun _ => 0)))) ∧
    (l.getD 9 false = true → x6 = .pointer (some ⟨g2, 0, none⟩) ∧ v.heap.size ≤ g2 ∧ Blk W g2 70 (va 2 (iv .u8 (if l.getD 11 false then (dig l0) else fun _ => 0)))) ∧
    (l.getD 8 false = true → l.getD 9 false = true → g1 ≠ g2))
def encB (x : Ino) (B : Nat) (v : World) (s0 t0 : Nat) (k l0 h0 g5 g6 g7 : Nat) (l : Array Bool) (a : Act) (W : World) : Prop :=
  ∃ (x8 x9 x32 x35 : Value) (g1 g2 : Nat), a = ({ tmps := #[Value.agg (inC x), Value.pointer (some ⟨B, 0, none⟩), Value.slice none 0 0, Value.int .i64 0, Value.int .i64 0, Value.pointer (some ⟨g5, 0, none⟩), Value.pointer (some ⟨g6, 0, none⟩), Value.pointer (some ⟨g7, 0, none⟩), x8, x9, undef, Value.agg (inC x), Value.int .i64 0, Value.int .i64 0, Value.bool false, undef, Value.pointer (some ⟨B, 0, none⟩), Value.int .i64 (k : Int), Value.int .u16 (k : Int), .agg (va 2 (iv .u8 (dig k))), Value.pointer (some ⟨B, 1, none⟩), Value.int .i64 (l0 : Int), Value.int .u16 (l0 : Int), .agg (va 2 (iv .u8 (dig l0))), Value.pointer (some ⟨B, 4, none⟩), Value.pointer (some ⟨B, 4, none⟩), Value.int .i64 (h0 : Int), Value.int .u16 (h0 : Int), .agg (va 2 (iv .u8 (dig h0))), Value.pointer (some ⟨B, 2, none⟩), Value.int .i64 (s0 : Int), Value.int .u64 (s0 : Int), x32, Value.pointer (some ⟨B, 3, none⟩), Value.int .u64 (t0 : Int), x35, undef, undef, undef, undef, undef, undef, undef, undef, undef, undef, undef, undef, undef, undef, undef, undef, undef, undef, undef, undef, undef, undef, undef, undef, undef, undef, undef, undef, undef], defers := [] } : Act) ∧ Hid (l.size = 11 ∧ Blk W B 31 (inC x) ∧ Below v.heap.size v W ∧ (l.getD 3 false = true → x32 = .agg (va 8 (iv .u8 (dig s0)))) ∧ (l.getD 6 false = true → x35 = .agg (va 8 (iv .u8 (dig t0)))) ∧
    (l.getD 7 false = true → x8 = .pointer (some ⟨g1, 0, none⟩) ∧ v.heap.size ≤ g1 ∧ Blk W g1 73 (va 8 (iv .u8 (if l.getD 9 false then (dig s0) else fun _ => 0)))) ∧
    (l.getD 8 false = true → x9 = .pointer (some ⟨g2, 0, none⟩) ∧ v.heap.size ≤ g2 ∧ Blk W g2 73 (va 8 (iv .u8 (if l.getD 10 false then (dig t0) else fun _ => 0)))) ∧
    (l.getD 7 false = true → l.getD 8 false = true → g1 ≠ g2))
set_option maxHeartbeats 4000000 in
theorem encode_no (x : Ino) (hx : InW x) (hc : chk x = false) (w : World) : Calls Try.prog 8 #[.agg (inC x)] w fun e w' => e = .returned (.tuple #[.slice none 0 0, .int .i64 140]) ∧ Below w.heap.size w w' := by
  have r0 : Blk (w.alloc (.cells (inC x) 31)) w.heap.size 31 (inC x) := Blk.new _ _ _
  have HB : Hid (Below w.heap.size w (w.alloc (.cells (inC x) 31))) := below_new1 _ _
  have HC : Hid (∀ w : World, Calls Try.prog 11 #[.agg (inC x)] w fun e w' => e = .returned (.int .i64 140) ∧ Below w.heap.size w w') := by
    have := check_any x hx
    rw [show chE x = 140 from by unfold chE; rw [hc]; rfl] at this
    exact this
  go_enter Try.func8, Try.ntmps8
  go_wp2_with (first | (refine wpList_load_rowg (by rfl) 31 _ (by rfl) (w.heap.size) (by rfl) 31 (inC x) (0, 0) _ (by exact r0) Try.underlying31 (by rfl) (sizeIno.trans (by rw [inC_size])) ?_; simp only [Act.put, List.setIfInBounds_toArray, List.set_cons_zero, List.set_cons_succ]) | fail)
  refine (HC.out _).mono ?_
  intro e w2 hw2
  obtain ⟨he2, hb2⟩ := hw2
  subst he2
  have HB2 : Hid (Below w.heap.size w w2) := HB.out.trans (hb2.mono HB.out.size)
  clear hb2
  go_wp2_with fail
  go_ret2
  exact ⟨rfl, HB2.out⟩
set_option maxHeartbeats 16000000 in
theorem encode_ok (x : Ino) (hx : InW x) (hc : chk x = true) (w : World) : Calls Try.prog 8 #[.agg (inC x)] w fun e w' => ∃ g, e = .returned (.tuple #[.slice (some ⟨g, 0, none⟩) 64 64, .int .i64 0]) ∧ w.heap.size ≤ g ∧ Blk w' g 5 (va 64 (iv .u8 (inB x))) ∧ Below w.heap.size w w' := by
  obtain ⟨b1, b2, b3, b4, b5, b6⟩ := chk_small hc
  have r0 : Blk (w.alloc (.cells (inC x) 31)) w.heap.size 31 (inC x) := Blk.new _ _ _
  have HB : Hid (Below w.heap.size w (w.alloc (.cells (inC x) 31)) ∧ w.heap.size < (w.alloc (.cells (inC x) 31)).heap.size) := ⟨below_new1 _ _, by simp⟩
  have HC : Hid (∀ w : World, Calls Try.prog 11 #[.agg (inC x)] w fun e w' => e = .returned (.int .i64 0) ∧ Below w.heap.size w w') := by
    have := check_any x hx
    rw [show chE x = 0 from by unfold chE; rw [hc]; rfl] at this
    exact this
  obtain ⟨k, hX0⟩ : ∃ k : Nat, Value.int .i64 x.k = Value.int .i64 (k : Int) := ⟨x.k.toNat, by congr 1; omega⟩
  obtain ⟨l0, hX1⟩ : ∃ k : Nat, Value.int .i64 x.l = Value.int .i64 (k : Int) := ⟨x.l.toNat, by congr 1; omega⟩
  obtain ⟨s0, hX2⟩ : ∃ k : Nat, Value.int .i64 x.s = Value.int .i64 (k : Int) := ⟨x.s.toNat, by congr 1; omega⟩
  obtain ⟨t0, hX3⟩ : ∃ k : Nat, Value.int .u64 ((x.t : Nat) : Int) = Value.int .u64 (k : Int) := ⟨x.t, rfl⟩
  obtain ⟨h0, hX4⟩ : ∃ k : Nat, Value.int .i64 x.h = Value.int .i64 (k : Int) := ⟨x.h.toNat, by congr 1; omega⟩
  have i0 : x.k = (k : Int) := by injection hX0
  have i1 : x.l = (l0 : Int) := by injection hX1
  have i2 : x.s = (s0 : Int) := by injection hX2
  have i3 : ((x.t : Nat) : Int) = (t0 : Int) := by injection hX3
  have i4 : x.h = (h0 : Int) := by injection hX4
  have hw0 : IntKind.u16.wrap (k : Int) = (k : Int) := wrap_u16 k (by omega)
  have hw1 : IntKind.u16.wrap (l0 : Int) = (l0 : Int) := wrap_u16 l0 (by omega)
  have hw2 : IntKind.u16.wrap (h0 : Int) = (h0 : Int) := wrap_u16 h0 (by omega)
  have hw3 : IntKind.u64.wrap (s0 : Int) = (s0 : Int) := wrap_u64 s0 (by omega)
  have HI : Hid (∀ j, putAt (putAt (putAt (putAt (putAt (putAt (fun _ => 0) 0 2 (dig k)) 2 2 (dig l0)) 4 2 (dig h0)) 8 8 (dig s0)) 16 8 (dig t0)) 24 36 (encR x.r) j = inB x j) := put_ino k l0 h0 s0 t0 x.r x i0.symm i1.symm i4.symm i2.symm (by omega) rfl
  have HD : Hid (okD x.r.2) := hx.d
  clear i0 i1 i2 i3 i4 b1 b2 b3 b4 b5 b6 hc hx
  go_enter Try.func8, Try.ntmps8
  go_wp2_with (first | (refine wpList_load_rowg (by rfl) 31 _ (by rfl) (w.heap.size) (by rfl) 31 (inC x) (0, 0) _ (by exact r0) Try.underlying31 (by rfl) (sizeIno.trans (by rw [inC_size])) ?_; simp only [Act.put, List.setIfInBounds_toArray, List.set_cons_zero, List.set_cons_succ]) | fail)
  refine (HC.out _).mono ?_
  intro e v hv2
  obtain ⟨he2, hb2⟩ := hv2
  subst he2
  have HV : Hid (Blk v w.heap.size 31 (inC x) ∧ Below v.heap.size v v ∧ w.heap.size < v.heap.size) := ⟨r0.below hb2 HB.out.2, Below.refl _ _, Nat.lt_of_lt_of_le HB.out.2 hb2.size⟩
  have HBV : Hid (Below w.heap.size w v) := HB.out.1.trans (hb2.mono (by have := HB.out.2; omega))
  clear hb2 r0 HB HC
  go_wp2_with fail
  refine wp_region_mach (fun W => Blk W w.heap.size 31 (inC x)) (fun i l => match i with | 3 => true | 7 => true | 8 => !l.getD 8 false && !l.getD 10 false | 9 => !l.getD 9 false && !l.getD 11 false | 10 => l.getD 3 false && l.getD 8 false | 11 => l.getD 7 false && l.getD 9 false | _ => false)
    (fun l => l.getD 3 false && l.getD 7 false && l.getD 8 false && l.getD 9 false && l.getD 10 false && l.getD 11 false) [0, 1, 2, 4, 5, 6] 6 (encA x w.heap.size v k l0) (by kernel_rfl) (by kernel_rfl) HV.out.1.drew ?_ ?_ ?_
  · refine ⟨_, Value.pointer (some ⟨w.heap.size, 0, none⟩), rfl, Or.inl ⟨by rfl, fun W hW => by go_simp⟩, ?_⟩
    simp only [Act.put, List.setIfInBounds_toArray, List.set_cons_zero, List.set_cons_succ]
    refine ⟨_, Value.int .i64 (k : Int), rfl, Or.inl ⟨by rfl, fun W hW => by have hW1 : W.cell? ⟨w.heap.size, 0, none⟩ = some (.int .i64 (k : Int)) := (ino_c0 hW).trans (congrArg some hX0); go_simp⟩, ?_⟩
    simp only [Act.put, List.setIfInBounds_toArray, List.set_cons_zero, List.set_cons_succ]
    refine ⟨_, Value.int .u16 (k : Int), rfl, Or.inl ⟨by rfl, fun W hW => by go_simp⟩, ?_⟩
    simp only [Act.put, List.setIfInBounds_toArray, List.set_cons_zero, List.set_cons_succ]
    refine ⟨_, Value.pointer (some ⟨w.heap.size, 1, none⟩), rfl, Or.inl ⟨by rfl, fun W hW => by go_simp⟩, ?_⟩
    simp only [Act.put, List.setIfInBounds_toArray, List.set_cons_zero, List.set_cons_succ]
    refine ⟨_, Value.int .i64 (l0 : Int), rfl, Or.inl ⟨by rfl, fun W hW => by have hW1 : W.cell? ⟨w.heap.size, 1, none⟩ = some (.int .i64 (l0 : Int)) := (ino_c1 hW).trans (congrArg some hX1); go_simp⟩, ?_⟩
    simp only [Act.put, List.setIfInBounds_toArray, List.set_cons_zero, List.set_cons_succ]
    refine ⟨_, Value.int .u16 (l0 : Int), rfl, Or.inl ⟨by rfl, fun W hW => by go_simp⟩, ?_⟩
    simp only [Act.put, List.setIfInBounds_toArray, List.set_cons_zero, List.set_cons_succ]
    exact ⟨undef, undef, undef, undef, 0, 0, rfl, rfl, HV.out.1.drew, HV.out.2.1.drew, fun h => absurd (show false = true from h) (by decide), fun h => absurd (show false = true from h) (by decide), fun h => absurd (show false = true from h) (by decide), fun h => absurd (show false = true from h) (by decide), fun h => absurd (show false = true from h) (by decide)⟩
  · intro j l a W hp hR
    obtain ⟨x5, x6, x19, x23, g1, g2, rfl, H⟩ := hR
    have hj : j = 3 ∨ j = 7 ∨ j = 8 ∨ j = 9 ∨ j = 10 ∨ j = 11 := by
      split at hp <;> simp_all
    obtain ⟨hsz, hbox, hbel, h3, h8, h9, h10, hne⟩ := H.out
    have hBv : w.heap.size < v.heap.size := HV.out.2.2
    have hvW : v.heap.size ≤ W.heap.size := hbel.size
    clear H
    rcases hj with rfl | rfl | rfl | rfl | rfl | rfl
    · clear hp
      simp only [List.cons_append, List.nil_append, List.append_nil, List.filterMap_cons, List.filterMap_nil, List.getElem?_toArray, List.getElem?_cons_zero, List.getElem?_cons_succ]
      go_wp2_with fail
      refine (bytes16_va k _).mono ?_
      intro e w3 hw3
      obtain ⟨he3, hb3⟩ := hw3
      subst he3
      have HX : Hid (Blk w3 w.heap.size 31 (inC x)) := hbox.below hb3 hbox.lt
      have HR : Hid (_ ∧ _ ∧ _ ∧ _ ∧ _ ∧ _) := ⟨hsz, hbel.trans (hb3.mono hbel.size), h8, fun h => (⟨(h9 h).1, (h9 h).2.1, (h9 h).2.2.below hb3 (h9 h).2.2.lt⟩ : _ ∧ _ ∧ Blk w3 g1 _ _), fun h => (⟨(h10 h).1, (h10 h).2.1, (h10 h).2.2.below hb3 (h10 h).2.2.lt⟩ : _ ∧ _ ∧ Blk w3 g2 _ _), hne⟩
      clear hbox hbel h3 h8 h9 h10 hne hb3
      go_wp2_with fail
      refine ⟨rfl, HX.out, x5, x6, _, x23, g1, g2, rfl, ?_⟩
      obtain ⟨hsz, hbel, ho, h9, h10, hne⟩ := HR.out
      refine ⟨by simpa using hsz, HX.out, hbel, fun _ => rfl, ?_, ?_, ?_, ?_⟩
      · rw [gs_ne (by decide)]; exact ho
      · rw [gs_ne (by decide), gs_ne (by decide)]; exact h9
      · rw [gs_ne (by decide), gs_ne (by decide)]; exact h10
      · rw [gs_ne (by decide), gs_ne (by decide)]; exact hne
    · clear hp
      simp only [List.cons_append, List.nil_append, List.append_nil, List.filterMap_cons, List.filterMap_nil, List.getElem?_toArray, List.getElem?_cons_zero, List.getElem?_cons_succ]
      go_wp2_with fail
      refine (bytes16_va l0 _).mono ?_
      intro e w3 hw3
      obtain ⟨he3, hb3⟩ := hw3
      subst he3
      have HX : Hid (Blk w3 w.heap.size 31 (inC x)) := hbox.below hb3 hbox.lt
      have HR : Hid (_ ∧ _ ∧ _ ∧ _ ∧ _ ∧ _) := ⟨hsz, hbel.trans (hb3.mono hbel.size), h3, fun h => (⟨(h9 h).1, (h9 h).2.1, (h9 h).2.2.below hb3 (h9 h).2.2.lt⟩ : _ ∧ _ ∧ Blk w3 g1 _ _), fun h => (⟨(h10 h).1, (h10 h).2.1, (h10 h).2.2.below hb3 (h10 h).2.2.lt⟩ : _ ∧ _ ∧ Blk w3 g2 _ _), hne⟩
      clear hbox hbel h3 h8 h9 h10 hne hb3
      go_wp2_with fail
      refine ⟨rfl, HX.out, x5, x6, x19, _, g1, g2, rfl, ?_⟩
      obtain ⟨hsz, hbel, ho, h9, h10, hne⟩ := HR.out
      refine ⟨by simpa using hsz, HX.out, hbel, ?_, fun _ => rfl, ?_, ?_, ?_⟩
      · rw [gs_ne (by decide)]; exact ho
      · rw [gs_ne (by decide), gs_ne (by decide)]; exact h9
      · rw [gs_ne (by decide), gs_ne (by decide)]; exact h10
      · rw [gs_ne (by decide), gs_ne (by decide)]; exact hne
    · simp only [Bool.and_eq_true, Bool.not_eq_true'] at hp
      have hp11 := hp.2
      simp only [List.cons_append, List.nil_append, List.append_nil, List.filterMap_cons, List.filterMap_nil, List.getElem?_toArray, List.getElem?_cons_zero, List.getElem?_cons_succ]
      go_wp2_with fail
      refine ⟨rfl, hbox.alloc _, _, x6, x19, x23, W.heap.size, g2, rfl, ?_⟩
      refine ⟨by simpa using hsz, hbox.alloc _, hbel.alloc hbel.size _, ?_, ?_, fun _ => ⟨rfl, hvW, by rw [gs_ne (by decide), hp11]; exact Blk.new _ _ _⟩, ?_, fun _ h => by rw [gs_ne (by decide)] at h; have := (h10 h).2.2.lt; omega⟩
      · rw [gs_ne (by decide)]; exact h3
      · rw [gs_ne (by decide)]; exact h8
      · rw [gs_ne (by decide), gs_ne (by decide)]; exact fun h => ⟨(h10 h).1, (h10 h).2.1, (h10 h).2.2.alloc _⟩
    · simp only [Bool.and_eq_true, Bool.not_eq_true'] at hp
      have hp11 := hp.2
      simp only [List.cons_append, List.nil_append, List.append_nil, List.filterMap_cons, List.filterMap_nil, List.getElem?_toArray, List.getElem?_cons_zero, List.getElem?_cons_succ]
      go_wp2_with fail
      refine ⟨rfl, hbox.alloc _, x5, _, x19, x23, g1, W.heap.size, rfl, ?_⟩
      refine ⟨by simpa using hsz, hbox.alloc _, hbel.alloc hbel.size _, ?_, ?_, ?_, fun _ => ⟨rfl, hvW, by rw [gs_ne (by decide), hp11]; exact Blk.new _ _ _⟩, fun h _ => by rw [gs_ne (by decide)] at h; have := (h9 h).2.2.lt; omega⟩
      · rw [gs_ne (by decide)]; exact h3
      · rw [gs_ne (by decide)]; exact h8
      · rw [gs_ne (by decide), gs_ne (by decide)]; exact fun h => ⟨(h9 h).1, (h9 h).2.1, (h9 h).2.2.alloc _⟩
    · simp only [Bool.and_eq_true] at hp
      obtain rfl := h3 hp.1
      obtain ⟨rfl, hgl, hblk⟩ := h9 hp.2
      simp only [List.cons_append, List.nil_append, List.append_nil, List.filterMap_cons, List.filterMap_nil, List.getElem?_toArray, List.getElem?_cons_zero, List.getElem?_cons_succ]
      (refine wpList_store_row (by rfl) 70 _ _ (by rfl) (g1) (va 2 (iv .u8 (dig k))) (by rfl) (by rfl) 70 _ hblk (sizeB2.trans (by rw [va_size])) (by simp only [va_size]) (iv_one _ _ _) ?_; simp only [Act.put, List.setIfInBounds_toArray, List.set_cons_zero, List.set_cons_succ])
      refine ⟨rfl, hbox.other _ (by omega), _, x6, _, x23, g1, g2, rfl, ?_⟩
      refine ⟨by simpa using hsz, hbox.other _ (by omega), below_setRow hbel hgl _, fun _ => rfl, fun h => by rw [gs_ne (by decide)] at h; exact h8 h, fun _ => ⟨rfl, hgl, by rw [gs_eq hsz (by decide)]; exact hblk.set _⟩, fun h => by rw [gs_ne (by decide)] at h; rw [gs_ne (by decide)]; exact ⟨(h10 h).1, (h10 h).2.1, (h10 h).2.2.other _ (fun e => (hne hp.2 h) e.symm)⟩, fun h h' => by rw [gs_ne (by decide)] at h h'; exact hne h h'⟩
    · simp only [Bool.and_eq_true] at hp
      obtain rfl := h8 hp.1
      obtain ⟨rfl, hgl, hblk⟩ := h10 hp.2
      simp only [List.cons_append, List.nil_append, List.append_nil, List.filterMap_cons, List.filterMap_nil, List.getElem?_toArray, List.getElem?_cons_zero, List.getElem?_cons_succ]
      (refine wpList_store_row (by rfl) 70 _ _ (by rfl) (g2) (va 2 (iv .u8 (dig l0))) (by rfl) (by rfl) 70 _ hblk (sizeB2.trans (by rw [va_size])) (by simp only [va_size]) (iv_one _ _ _) ?_; simp only [Act.put, List.setIfInBounds_toArray, List.set_cons_zero, List.set_cons_succ])
      refine ⟨rfl, hbox.other _ (by omega), x5, _, x19, _, g1, g2, rfl, ?_⟩
      refine ⟨by simpa using hsz, hbox.other _ (by omega), below_setRow hbel hgl _, fun h => by rw [gs_ne (by decide)] at h; exact h3 h, fun _ => rfl, fun h => by rw [gs_ne (by decide)] at h; rw [gs_ne (by decide)]; exact ⟨(h9 h).1, (h9 h).2.1, (h9 h).2.2.other _ (fun e => (hne h hp.2) e)⟩, fun _ => ⟨rfl, hgl, by rw [gs_eq hsz (by decide)]; exact hblk.set _⟩, fun h h' => by rw [gs_ne (by decide)] at h h'; exact hne h h'⟩
  · intro l a W hp hR
    obtain ⟨x5, x6, x19, x23, GA, GB, rfl, H⟩ := hR
    simp only [Bool.and_eq_true] at hp
    obtain ⟨⟨⟨⟨⟨p3, p8⟩, p9⟩, p10⟩, p11⟩, p12⟩ := hp
    obtain ⟨hsz, hbox, hbel, h3, h8, h9, h10, hne⟩ := H.out
    clear H
    obtain ⟨rfl, hg5, hk5⟩ := h9 p9
    obtain ⟨rfl, hg6, hk6⟩ := h10 p10
    have hn := hne p9 p10
    rw [p11, if_pos rfl] at hk5
    rw [p12, if_pos rfl] at hk6
    obtain rfl := h3 p3
    obtain rfl := h8 p8
    refine ⟨rfl, ?_⟩
    have HZ : Hid (_ ∧ _ ∧ _ ∧ _ ∧ _ ∧ _) := ⟨hbox, hbel, hk5, hk6, hg5, hg6⟩
    clear h3 h8 h9 h10 hne p3 p8 p9 p10 p11 p12 hsz hbox hbel hk5 hk6 hg5 hg6 hn l
    have HZ1 : Hid (Blk W w.heap.size 31 (inC x) ∧ Below w.heap.size w W ∧ Blk W GA 70 (va 2 (iv .u8 (dig k))) ∧ Blk W GB 70 (va 2 (iv .u8 (dig l0)))) := ⟨HZ.out.1, HBV.out.trans (HZ.out.2.1.mono (by have := HV.out.2.2; omega)), HZ.out.2.2.1, HZ.out.2.2.2.1⟩
    clear HZ HV HBV
    have hc4 : W.cell? ⟨w.heap.size, 4, none⟩ = some (.int .i64 (h0 : Int)) := by rw [← hX4]; exact ino_c4 HZ1.out.1
    go_wp2_with fail
    refine (bytes16_va h0 _).mono ?_
    intro e W5 hw5
    obtain ⟨he5, hb5⟩ := hw5
    subst he5
    have hz2 : ∀ w, (zeroValue 70).run Try.prog w = .ok (.agg (va 2 (iv .u8 fun _ => 0))) w := zero_of (by kernel_rfl)
    have HZ2 : Hid (Blk W5 w.heap.size 31 (inC x) ∧ Below w.heap.size w W5 ∧ Blk W5 GA 70 (va 2 (iv .u8 (dig k))) ∧ Blk W5 GB 70 (va 2 (iv .u8 (dig l0)))) := ⟨HZ1.out.1.below hb5 HZ1.out.1.lt, HZ1.out.2.1.trans (hb5.mono HZ1.out.2.1.size), HZ1.out.2.2.1.below hb5 HZ1.out.2.2.1.lt, HZ1.out.2.2.2.below hb5 HZ1.out.2.2.2.lt⟩
    have q7 : Blk (W5.alloc (.cells (va 2 (iv .u8 fun _ => 0)) 70)) W5.heap.size 70 (va 2 (iv .u8 fun _ => 0)) := Blk.new _ _ _
    clear hb5 HZ1 hc4
    go_wp2_with (first | (refine wpList_store_row (by rfl) 70 _ _ (by rfl) (W5.heap.size) (va 2 (iv .u8 (dig h0))) (by rfl) (by rfl) 70 _ (by exact q7) (sizeB2.trans (by rw [va_size])) (by simp only [va_size]) (iv_one _ _ _) ?_; simp only [Act.put, List.setIfInBounds_toArray, List.set_cons_zero, List.set_cons_succ]) | fail)
    have HZ3 : Hid (Blk ((W5.alloc (.cells (va 2 (iv .u8 fun _ => 0)) 70)).setRow W5.heap.size (va 2 (iv .u8 (dig h0)))) w.heap.size 31 (inC x) ∧ Below w.heap.size w ((W5.alloc (.cells (va 2 (iv .u8 fun _ => 0)) 70)).setRow W5.heap.size (va 2 (iv .u8 (dig h0)))) ∧ Blk ((W5.alloc (.cells (va 2 (iv .u8 fun _ => 0)) 70)).setRow W5.heap.size (va 2 (iv .u8 (dig h0)))) GA 70 (va 2 (iv .u8 (dig k))) ∧ Blk ((W5.alloc (.cells (va 2 (iv .u8 fun _ => 0)) 70)).setRow W5.heap.size (va 2 (iv .u8 (dig h0)))) GB 70 (va 2 (iv .u8 (dig l0))) ∧ Blk ((W5.alloc (.cells (va 2 (iv .u8 fun _ => 0)) 70)).setRow W5.heap.size (va 2 (iv .u8 (dig h0)))) W5.heap.size 70 (va 2 (iv .u8 (dig h0)))) :=
      ⟨(HZ2.out.1.alloc _).other _ (by have := HZ2.out.1.lt; omega), below_setRow (HZ2.out.2.1.alloc HZ2.out.2.1.size _) HZ2.out.2.1.size _, (HZ2.out.2.2.1.alloc _).other _ (by have := HZ2.out.2.2.1.lt; omega), (HZ2.out.2.2.2.alloc _).other _ (by have := HZ2.out.2.2.2.lt; omega), q7.set _⟩
    clear q7 HZ2
    generalize (W5.alloc (.cells (va 2 (iv .u8 fun _ => 0)) 70)).setRow W5.heap.size (va 2 (iv .u8 (dig h0))) = v6 at HZ3 ⊢
    generalize W5.heap.size = g7 at HZ3 ⊢
    generalize GA = g5 at HZ3 ⊢
    generalize GB = g6 at HZ3 ⊢
    have HV : Hid (Blk v6 w.heap.size 31 (inC x) ∧ Below v6.heap.size v6 v6 ∧ w.heap.size < v6.heap.size) := ⟨HZ3.out.1, Below.refl _ _, HZ3.out.1.lt⟩
    clear hz2
    refine wp_region_mach (fun W => Blk W w.heap.size 31 (inC x)) (fun i l => match i with | 3 => true | 6 => true | 7 => !l.getD 7 false && !l.getD 9 false | 8 => !l.getD 8 false && !l.getD 10 false | 9 => l.getD 3 false && l.getD 7 false | 10 => l.getD 6 false && l.getD 8 false | _ => false)
      (fun l => l.getD 3 false && l.getD 6 false && l.getD 7 false && l.getD 8 false && l.getD 9 false && l.getD 10 false) [0, 1, 2, 4, 5] 6 (encB x w.heap.size v6 s0 t0 k l0 h0 g5 g6 g7) (by kernel_rfl) (by kernel_rfl) HV.out.1.drew ?_ ?_ ?_
    · refine ⟨_, Value.pointer (some ⟨w.heap.size, 2, none⟩), rfl, Or.inl ⟨by rfl, fun W hW => by go_simp⟩, ?_⟩
      simp only [Act.put, List.setIfInBounds_toArray, List.set_cons_zero, List.set_cons_succ]
      refine ⟨_, Value.int .i64 (s0 : Int), rfl, Or.inl ⟨by rfl, fun W hW => by have hW1 : W.cell? ⟨w.heap.size, 2, none⟩ = some (.int .i64 (s0 : Int)) := (ino_c2 hW).trans (congrArg some hX2); go_simp⟩, ?_⟩
      simp only [Act.put, List.setIfInBounds_toArray, List.set_cons_zero, List.set_cons_succ]
      refine ⟨_, Value.int .u64 (s0 : Int), rfl, Or.inl ⟨by rfl, fun W hW => by go_simp⟩, ?_⟩
      simp only [Act.put, List.setIfInBounds_toArray, List.set_cons_zero, List.set_cons_succ]
      refine ⟨_, Value.pointer (some ⟨w.heap.size, 3, none⟩), rfl, Or.inl ⟨by rfl, fun W hW => by go_simp⟩, ?_⟩
      simp only [Act.put, List.setIfInBounds_toArray, List.set_cons_zero, List.set_cons_succ]
      refine ⟨_, Value.int .u64 (t0 : Int), rfl, Or.inl ⟨by rfl, fun W hW => by have hW1 : W.cell? ⟨w.heap.size, 3, none⟩ = some (.int .u64 (t0 : Int)) := (ino_c3 hW).trans (congrArg some hX3); go_simp⟩, ?_⟩
      simp only [Act.put, List.setIfInBounds_toArray, List.set_cons_zero, List.set_cons_succ]
      exact ⟨undef, undef, undef, undef, 0, 0, rfl, rfl, HV.out.1.drew, HV.out.2.1.drew, fun h => absurd (show false = true from h) (by decide), fun h => absurd (show false = true from h) (by decide), fun h => absurd (show false = true from h) (by decide), fun h => absurd (show false = true from h) (by decide), fun h => absurd (show false = true from h) (by decide)⟩
    · intro j l a W hp hR
      obtain ⟨x8, x9, x32, x35, g1, g2, rfl, H⟩ := hR
      have hj : j = 3 ∨ j = 6 ∨ j = 7 ∨ j = 8 ∨ j = 9 ∨ j = 10 := by
        split at hp <;> simp_all
      obtain ⟨hsz, hbox, hbel, h3, h8, h9, h10, hne⟩ := H.out
      have hBv : w.heap.size < v6.heap.size := HV.out.2.2
      have hvW : v6.heap.size ≤ W.heap.size := hbel.size
      clear H
      rcases hj with rfl | rfl | rfl | rfl | rfl | rfl
      · clear hp
        simp only [List.cons_append, List.nil_append, List.append_nil, List.filterMap_cons, List.filterMap_nil, List.getElem?_toArray, List.getElem?_cons_zero, List.getElem?_cons_succ]
        go_wp2_with fail
        refine (bytes64_va s0 _).mono ?_
        intro e w3 hw3
        obtain ⟨he3, hb3⟩ := hw3
        subst he3
        have HX : Hid (Blk w3 w.heap.size 31 (inC x)) := hbox.below hb3 hbox.lt
        have HR : Hid (_ ∧ _ ∧ _ ∧ _ ∧ _ ∧ _) := ⟨hsz, hbel.trans (hb3.mono hbel.size), h8, fun h => (⟨(h9 h).1, (h9 h).2.1, (h9 h).2.2.below hb3 (h9 h).2.2.lt⟩ : _ ∧ _ ∧ Blk w3 g1 _ _), fun h => (⟨(h10 h).1, (h10 h).2.1, (h10 h).2.2.below hb3 (h10 h).2.2.lt⟩ : _ ∧ _ ∧ Blk w3 g2 _ _), hne⟩
        clear hbox hbel h3 h8 h9 h10 hne hb3
        go_wp2_with fail
        refine ⟨rfl, HX.out, x8, x9, _, x35, g1, g2, rfl, ?_⟩
        obtain ⟨hsz, hbel, ho, h9, h10, hne⟩ := HR.out
        refine ⟨by simpa using hsz, HX.out, hbel, fun _ => rfl, ?_, ?_, ?_, ?_⟩
        · rw [gs_ne (by decide)]; exact ho
        · rw [gs_ne (by decide), gs_ne (by decide)]; exact h9
        · rw [gs_ne (by decide), gs_ne (by decide)]; exact h10
        · rw [gs_ne (by decide), gs_ne (by decide)]; exact hne
      · clear hp
        simp only [List.cons_append, List.nil_append, List.append_nil, List.filterMap_cons, List.filterMap_nil, List.getElem?_toArray, List.getElem?_cons_zero, List.getElem?_cons_succ]
        go_wp2_with fail
        refine (bytes64_va t0 _).mono ?_
        intro e w3 hw3
        obtain ⟨he3, hb3⟩ := hw3
        subst he3
        have HX : Hid (Blk w3 w.heap.size 31 (inC x)) := hbox.below hb3 hbox.lt
        have HR : Hid (_ ∧ _ ∧ _ ∧ _ ∧ _ ∧ _) := ⟨hsz, hbel.trans (hb3.mono hbel.size), h3, fun h => (⟨(h9 h).1, (h9 h).2.1, (h9 h).2.2.below hb3 (h9 h).2.2.lt⟩ : _ ∧ _ ∧ Blk w3 g1 _ _), fun h => (⟨(h10 h).1, (h10 h).2.1, (h10 h).2.2.below hb3 (h10 h).2.2.lt⟩ : _ ∧ _ ∧ Blk w3 g2 _ _), hne⟩
        clear hbox hbel h3 h8 h9 h10 hne hb3
        go_wp2_with fail
        refine ⟨rfl, HX.out, x8, x9, x32, _, g1, g2, rfl, ?_⟩
        obtain ⟨hsz, hbel, ho, h9, h10, hne⟩ := HR.out
        refine ⟨by simpa using hsz, HX.out, hbel, ?_, fun _ => rfl, ?_, ?_, ?_⟩
        · rw [gs_ne (by decide)]; exact ho
        · rw [gs_ne (by decide), gs_ne (by decide)]; exact h9
        · rw [gs_ne (by decide), gs_ne (by decide)]; exact h10
        · rw [gs_ne (by decide), gs_ne (by decide)]; exact hne
      · simp only [Bool.and_eq_true, Bool.not_eq_true'] at hp
        have hp11 := hp.2
        simp only [List.cons_append, List.nil_append, List.append_nil, List.filterMap_cons, List.filterMap_nil, List.getElem?_toArray, List.getElem?_cons_zero, List.getElem?_cons_succ]
        go_wp2_with fail
        refine ⟨rfl, hbox.alloc _, _, x9, x32, x35, W.heap.size, g2, rfl, ?_⟩
        refine ⟨by simpa using hsz, hbox.alloc _, hbel.alloc hbel.size _, ?_, ?_, fun _ => ⟨rfl, hvW, by rw [gs_ne (by decide), hp11]; exact Blk.new _ _ _⟩, ?_, fun _ h => by rw [gs_ne (by decide)] at h; have := (h10 h).2.2.lt; omega⟩
        · rw [gs_ne (by decide)]; exact h3
        · rw [gs_ne (by decide)]; exact h8
        · rw [gs_ne (by decide), gs_ne (by decide)]; exact fun h => ⟨(h10 h).1, (h10 h).2.1, (h10 h).2.2.alloc _⟩
      · simp only [Bool.and_eq_true, Bool.not_eq_true'] at hp
        have hp11 := hp.2
        simp only [List.cons_append, List.nil_append, List.append_nil, List.filterMap_cons, List.filterMap_nil, List.getElem?_toArray, List.getElem?_cons_zero, List.getElem?_cons_succ]
        go_wp2_with fail
        refine ⟨rfl, hbox.alloc _, x8, _, x32, x35, g1, W.heap.size, rfl, ?_⟩
        refine ⟨by simpa using hsz, hbox.alloc _, hbel.alloc hbel.size _, ?_, ?_, ?_, fun _ => ⟨rfl, hvW, by rw [gs_ne (by decide), hp11]; exact Blk.new _ _ _⟩, fun h _ => by rw [gs_ne (by decide)] at h; have := (h9 h).2.2.lt; omega⟩
        · rw [gs_ne (by decide)]; exact h3
        · rw [gs_ne (by decide)]; exact h8
        · rw [gs_ne (by decide), gs_ne (by decide)]; exact fun h => ⟨(h9 h).1, (h9 h).2.1, (h9 h).2.2.alloc _⟩
      · simp only [Bool.and_eq_true] at hp
        obtain rfl := h3 hp.1
        obtain ⟨rfl, hgl, hblk⟩ := h9 hp.2
        simp only [List.cons_append, List.nil_append, List.append_nil, List.filterMap_cons, List.filterMap_nil, List.getElem?_toArray, List.getElem?_cons_zero, List.getElem?_cons_succ]
        (refine wpList_store_row (by rfl) 73 _ _ (by rfl) (g1) (va 8 (iv .u8 (dig s0))) (by rfl) (by rfl) 73 _ hblk (sizeB8.trans (by rw [va_size])) (by simp only [va_size]) (iv_one _ _ _) ?_; simp only [Act.put, List.setIfInBounds_toArray, List.set_cons_zero, List.set_cons_succ])
        refine ⟨rfl, hbox.other _ (by omega), _, x9, _, x35, g1, g2, rfl, ?_⟩
        refine ⟨by simpa using hsz, hbox.other _ (by omega), below_setRow hbel hgl _, fun _ => rfl, fun h => by rw [gs_ne (by decide)] at h; exact h8 h, fun _ => ⟨rfl, hgl, by rw [gs_eq hsz (by decide)]; exact hblk.set _⟩, fun h => by rw [gs_ne (by decide)] at h; rw [gs_ne (by decide)]; exact ⟨(h10 h).1, (h10 h).2.1, (h10 h).2.2.other _ (fun e => (hne hp.2 h) e.symm)⟩, fun h h' => by rw [gs_ne (by decide)] at h h'; exact hne h h'⟩
      · simp only [Bool.and_eq_true] at hp
        obtain rfl := h8 hp.1
        obtain ⟨rfl, hgl, hblk⟩ := h10 hp.2
        simp only [List.cons_append, List.nil_append, List.append_nil, List.filterMap_cons, List.filterMap_nil, List.getElem?_toArray, List.getElem?_cons_zero, List.getElem?_cons_succ]
        (refine wpList_store_row (by rfl) 73 _ _ (by rfl) (g2) (va 8 (iv .u8 (dig t0))) (by rfl) (by rfl) 73 _ hblk (sizeB8.trans (by rw [va_size])) (by simp only [va_size]) (iv_one _ _ _) ?_; simp only [Act.put, List.setIfInBounds_toArray, List.set_cons_zero, List.set_cons_succ])
        refine ⟨rfl, hbox.other _ (by omega), x8, _, x32, _, g1, g2, rfl, ?_⟩
        refine ⟨by simpa using hsz, hbox.other _ (by omega), below_setRow hbel hgl _, fun h => by rw [gs_ne (by decide)] at h; exact h3 h, fun _ => rfl, fun h => by rw [gs_ne (by decide)] at h; rw [gs_ne (by decide)]; exact ⟨(h9 h).1, (h9 h).2.1, (h9 h).2.2.other _ (fun e => (hne h hp.2) e)⟩, fun _ => ⟨rfl, hgl, by rw [gs_eq hsz (by decide)]; exact hblk.set _⟩, fun h h' => by rw [gs_ne (by decide)] at h h'; exact hne h h'⟩
    · intro l a W hp hR
      obtain ⟨x8, x9, x32, x35, GA, GB, rfl, H⟩ := hR
      simp only [Bool.and_eq_true] at hp
      obtain ⟨⟨⟨⟨⟨p3, p8⟩, p9⟩, p10⟩, p11⟩, p12⟩ := hp
      obtain ⟨hsz, hbox, hbel, h3, h8, h9, h10, hne⟩ := H.out
      clear H
      obtain ⟨rfl, hg5, hk5⟩ := h9 p9
      obtain ⟨rfl, hg6, hk6⟩ := h10 p10
      have hn := hne p9 p10
      rw [p11, if_pos rfl] at hk5
      rw [p12, if_pos rfl] at hk6
      obtain rfl := h3 p3
      obtain rfl := h8 p8
      refine ⟨rfl, ?_⟩
      have HZ : Hid (_ ∧ _ ∧ _ ∧ _ ∧ _ ∧ _) := ⟨hbox, hbel, hk5, hk6, hg5, hg6⟩
      clear h3 h8 h9 h10 hne p3 p8 p9 p10 p11 p12 hsz hbox hbel hk5 hk6 hg5 hg6 hn l
      have HZ4 : Hid (Blk W w.heap.size 31 (inC x) ∧ Below w.heap.size w W ∧ Blk W g5 70 (va 2 (iv .u8 (dig k))) ∧ Blk W g6 70 (va 2 (iv .u8 (dig l0))) ∧ Blk W g7 70 (va 2 (iv .u8 (dig h0))) ∧ Blk W GA 73 (va 8 (iv .u8 (dig s0))) ∧ Blk W GB 73 (va 8 (iv .u8 (dig t0)))) :=
        ⟨HZ.out.1, HZ3.out.2.1.trans (HZ.out.2.1.mono (by have := HV.out.2.2; omega)), HZ3.out.2.2.1.below HZ.out.2.1 HZ3.out.2.2.1.lt, HZ3.out.2.2.2.1.below HZ.out.2.1 HZ3.out.2.2.2.1.lt, HZ3.out.2.2.2.2.below HZ.out.2.1 HZ3.out.2.2.2.2.lt, HZ.out.2.2.1, HZ.out.2.2.2.1⟩
      clear HZ HV HZ3
      have hmk := make_b64 W
      obtain ⟨z1, z2, z3, z4, z5, z6, z7⟩ := HZ4.out
      have HA0 : Hid (_ ∧ _ ∧ _ ∧ _ ∧ _ ∧ _ ∧ _ ∧ _) := ⟨z1.alloc (.cells (va 64 (iv .u8 fun _ => 0)) 5), z2.alloc z2.size (.cells (va 64 (iv .u8 fun _ => 0)) 5), z3.alloc (.cells (va 64 (iv .u8 fun _ => 0)) 5), z4.alloc (.cells (va 64 (iv .u8 fun _ => 0)) 5), z5.alloc (.cells (va 64 (iv .u8 fun _ => 0)) 5), z6.alloc (.cells (va 64 (iv .u8 fun _ => 0)) 5), z7.alloc (.cells (va 64 (iv .u8 fun _ => 0)) 5), Blk.new W 5 (va 64 (iv .u8 fun _ => 0))⟩
      have n1 := z1.lt
      have n3 := z3.lt
      have n4 := z4.lt
      have n5 := z5.lt
      have n6 := z6.lt
      have n7 := z7.lt
      have nB := z2.size
      clear z1 z2 z3 z4 z5 z6 z7 HZ4
      go_wp2_with fail
      generalize W.alloc (.cells (va 64 (iv .u8 fun _ => 0)) 5) = V0 at HA0 ⊢
      generalize W.heap.size = G at HA0 n1 n3 n4 n5 n6 n7 nB ⊢
      clear hmk
      generalize (fun _ => 0 : Nat → Nat) = P0 at HA0 HI ⊢
      obtain ⟨z1, z2, z3, z4, z5, z6, z7, z8⟩ := HA0.out
      have hc := fun ty => copy_blk (ty := ty) (o := 0) (dLen := 64) (dCap := 64) (sCap := 2) z8.drew z3.drew (by decide) (by decide)
      have HA1 : Hid (_ ∧ _ ∧ _ ∧ _ ∧ _ ∧ _ ∧ _ ∧ _) := ⟨z1.drew.other (g := G) (va 64 (iv .u8 (putAt P0 0 2 (dig k)))) (by omega), below_setRow z2.drew nB (va 64 (iv .u8 (putAt P0 0 2 (dig k)))), z3.drew.other (g := G) (va 64 (iv .u8 (putAt P0 0 2 (dig k)))) (by omega), z4.drew.other (g := G) (va 64 (iv .u8 (putAt P0 0 2 (dig k)))) (by omega), z5.drew.other (g := G) (va 64 (iv .u8 (putAt P0 0 2 (dig k)))) (by omega), z6.drew.other (g := G) (va 64 (iv .u8 (putAt P0 0 2 (dig k)))) (by omega), z7.drew.other (g := G) (va 64 (iv .u8 (putAt P0 0 2 (dig k)))) (by omega), z8.drew.set (va 64 (iv .u8 (putAt P0 0 2 (dig k))))⟩
      clear z1 z2 z3 z4 z5 z6 z7 z8 HA0
      go_region
      generalize V0.drew.setRow G (va 64 (iv .u8 (putAt P0 0 2 (dig k)))) = V1 at HA1 ⊢
      generalize putAt P0 0 2 (dig k) = P1 at HA1 HI ⊢
      clear hc
      go_wp2_with fail
      obtain ⟨z1, z2, z3, z4, z5, z6, z7, z8⟩ := HA1.out
      have hc := fun ty => copy_blk (ty := ty) (o := 2) (dLen := 62) (dCap := 62) (sCap := 2) z8.drew z4.drew (by decide) (by decide)
      have HA2 : Hid (_ ∧ _ ∧ _ ∧ _ ∧ _ ∧ _ ∧ _ ∧ _) := ⟨z1.drew.other (g := G) (va 64 (iv .u8 (putAt P1 2 2 (dig l0)))) (by omega), below_setRow z2.drew nB (va 64 (iv .u8 (putAt P1 2 2 (dig l0)))), z3.drew.other (g := G) (va 64 (iv .u8 (putAt P1 2 2 (dig l0)))) (by omega), z4.drew.other (g := G) (va 64 (iv .u8 (putAt P1 2 2 (dig l0)))) (by omega), z5.drew.other (g := G) (va 64 (iv .u8 (putAt P1 2 2 (dig l0)))) (by omega), z6.drew.other (g := G) (va 64 (iv .u8 (putAt P1 2 2 (dig l0)))) (by omega), z7.drew.other (g := G) (va 64 (iv .u8 (putAt P1 2 2 (dig l0)))) (by omega), z8.drew.set (va 64 (iv .u8 (putAt P1 2 2 (dig l0))))⟩
      clear z1 z2 z3 z4 z5 z6 z7 z8 HA1
      go_region
      generalize V1.drew.setRow G (va 64 (iv .u8 (putAt P1 2 2 (dig l0)))) = V2 at HA2 ⊢
      generalize putAt P1 2 2 (dig l0) = P2 at HA2 HI ⊢
      clear hc
      go_wp2_with fail
      obtain ⟨z1, z2, z3, z4, z5, z6, z7, z8⟩ := HA2.out
      have hc := fun ty => copy_blk (ty := ty) (o := 4) (dLen := 60) (dCap := 60) (sCap := 2) z8.drew z5.drew (by decide) (by decide)
      have HA3 : Hid (_ ∧ _ ∧ _ ∧ _ ∧ _ ∧ _ ∧ _ ∧ _) := ⟨z1.drew.other (g := G) (va 64 (iv .u8 (putAt P2 4 2 (dig h0)))) (by omega), below_setRow z2.drew nB (va 64 (iv .u8 (putAt P2 4 2 (dig h0)))), z3.drew.other (g := G) (va 64 (iv .u8 (putAt P2 4 2 (dig h0)))) (by omega), z4.drew.other (g := G) (va 64 (iv .u8 (putAt P2 4 2 (dig h0)))) (by omega), z5.drew.other (g := G) (va 64 (iv .u8 (putAt P2 4 2 (dig h0)))) (by omega), z6.drew.other (g := G) (va 64 (iv .u8 (putAt P2 4 2 (dig h0)))) (by omega), z7.drew.other (g := G) (va 64 (iv .u8 (putAt P2 4 2 (dig h0)))) (by omega), z8.drew.set (va 64 (iv .u8 (putAt P2 4 2 (dig h0))))⟩
      clear z1 z2 z3 z4 z5 z6 z7 z8 HA2
      go_region
      generalize V2.drew.setRow G (va 64 (iv .u8 (putAt P2 4 2 (dig h0)))) = V3 at HA3 ⊢
      generalize putAt P2 4 2 (dig h0) = P3 at HA3 HI ⊢
      clear hc
      go_wp2_with fail
      obtain ⟨z1, z2, z3, z4, z5, z6, z7, z8⟩ := HA3.out
      have hc := fun ty => copy_blk (ty := ty) (o := 8) (dLen := 56) (dCap := 56) (sCap := 8) z8.drew z6.drew (by decide) (by decide)
      have HA4 : Hid (_ ∧ _ ∧ _ ∧ _ ∧ _ ∧ _ ∧ _ ∧ _) := ⟨z1.drew.other (g := G) (va 64 (iv .u8 (putAt P3 8 8 (dig s0)))) (by omega), below_setRow z2.drew nB (va 64 (iv .u8 (putAt P3 8 8 (dig s0)))), z3.drew.other (g := G) (va 64 (iv .u8 (putAt P3 8 8 (dig s0)))) (by omega), z4.drew.other (g := G) (va 64 (iv .u8 (putAt P3 8 8 (dig s0)))) (by omega), z5.drew.other (g := G) (va 64 (iv .u8 (putAt P3 8 8 (dig s0)))) (by omega), z6.drew.other (g := G) (va 64 (iv .u8 (putAt P3 8 8 (dig s0)))) (by omega), z7.drew.other (g := G) (va 64 (iv .u8 (putAt P3 8 8 (dig s0)))) (by omega), z8.drew.set (va 64 (iv .u8 (putAt P3 8 8 (dig s0))))⟩
      clear z1 z2 z3 z4 z5 z6 z7 z8 HA3
      go_region
      generalize V3.drew.setRow G (va 64 (iv .u8 (putAt P3 8 8 (dig s0)))) = V4 at HA4 ⊢
      generalize putAt P3 8 8 (dig s0) = P4 at HA4 HI ⊢
      clear hc
      go_wp2_with fail
      obtain ⟨z1, z2, z3, z4, z5, z6, z7, z8⟩ := HA4.out
      have hc := fun ty => copy_blk (ty := ty) (o := 16) (dLen := 48) (dCap := 48) (sCap := 8) z8.drew z7.drew (by decide) (by decide)
      have HA5 : Hid (_ ∧ _ ∧ _ ∧ _ ∧ _ ∧ _ ∧ _ ∧ _) := ⟨z1.drew.other (g := G) (va 64 (iv .u8 (putAt P4 16 8 (dig t0)))) (by omega), below_setRow z2.drew nB (va 64 (iv .u8 (putAt P4 16 8 (dig t0)))), z3.drew.other (g := G) (va 64 (iv .u8 (putAt P4 16 8 (dig t0)))) (by omega), z4.drew.other (g := G) (va 64 (iv .u8 (putAt P4 16 8 (dig t0)))) (by omega), z5.drew.other (g := G) (va 64 (iv .u8 (putAt P4 16 8 (dig t0)))) (by omega), z6.drew.other (g := G) (va 64 (iv .u8 (putAt P4 16 8 (dig t0)))) (by omega), z7.drew.other (g := G) (va 64 (iv .u8 (putAt P4 16 8 (dig t0)))) (by omega), z8.drew.set (va 64 (iv .u8 (putAt P4 16 8 (dig t0))))⟩
      clear z1 z2 z3 z4 z5 z6 z7 z8 HA4
      go_region
      generalize V4.drew.setRow G (va 64 (iv .u8 (putAt P4 16 8 (dig t0)))) = V5 at HA5 ⊢
      generalize putAt P4 16 8 (dig t0) = P5 at HA5 HI ⊢
      clear hc
      go_wp2_with fail
      obtain ⟨z1, z2, z3, z4, z5, z6, z7, z8⟩ := HA5.out
      clear z3 z4 z5 z6 z7 HA5 n3 n4 n5 n6 n7
      have HQ : Hid (∀ W, Blk W w.heap.size 31 (inC x) → W.rangeAt w.heap.size 5 ((List.range 33).map (rfF x.r.1 x.r.2))) := fun W hW => by
        have h := World.rangeAt_of_block (b := w.heap.size) hW 5 33
        rw [in_ref] at h
        unfold rfC at h
        rwa [va_toList] at h
      have hS : Blk V5.drew w.heap.size 31 (inC x) ∧ Below w.heap.size w V5.drew ∧ Blk V5.drew G 5 (va 64 (iv .u8 P5)) ∧ w.heap.size < V5.drew.heap.size := ⟨z1.drew, z2.drew, z8.drew, z1.drew.lt⟩
      clear z1 z2 z8
      refine wp_region_partsS (fun W => Blk W w.heap.size 31 (inC x) ∧ Below w.heap.size w W ∧ Blk W G 5 (va 64 (iv .u8 P5)) ∧ w.heap.size < W.heap.size) [([0], 1, true), ([], 2, false), ([], 3, false), ([], 4, false), ([], 5, false)] [] [6] (by kernel_rfl) (by kernel_rfl) hS (partsI_yield ?_)
      simp only [List.cons_append, List.nil_append, List.append_nil, List.filterMap_cons, List.filterMap_nil, List.getElem?_toArray, List.getElem?_cons_zero, List.getElem?_cons_succ]
      go_wp2_with fail
      refine ⟨rfl, _, .slice (some ⟨G, 24, none⟩) 40 40, rfl, Or.inl ⟨by rfl, fun W hW => by go_simp⟩, partsI_force ?_⟩
      simp only [Act.put, List.setIfInBounds_toArray, List.set_cons_zero, List.set_cons_succ]
      simp only [List.cons_append, List.nil_append, List.append_nil, List.filterMap_cons, List.filterMap_nil, List.getElem?_toArray, List.getElem?_cons_zero, List.getElem?_cons_succ]
      go_wp2_with fail
      refine ⟨rfl, hS, partsI_force ?_⟩
      simp only [List.cons_append, List.nil_append, List.append_nil, List.filterMap_cons, List.filterMap_nil, List.getElem?_toArray, List.getElem?_cons_zero, List.getElem?_cons_succ]
      go_wp2_with fail
      refine ⟨rfl, hS, partsI_force ?_⟩
      simp only [List.cons_append, List.nil_append, List.append_nil, List.filterMap_cons, List.filterMap_nil, List.getElem?_toArray, List.getElem?_cons_zero, List.getElem?_cons_succ]
      (refine wpList_load_blk (by rfl) 27 _ (by rfl) (w.heap.size) 5 33 (rfF x.r.1 x.r.2) (by rfl) _ (HQ.out _ hS.1) Try.underlying27 rfl slSizeRef ?_; simp only [Act.put, List.setIfInBounds_toArray, List.set_cons_zero, List.set_cons_succ])
      go_wp2_with fail
      refine ⟨rfl, hS, partsI_force ?_⟩
      simp only [List.cons_append, List.nil_append, List.append_nil, List.filterMap_cons, List.filterMap_nil, List.getElem?_toArray, List.getElem?_cons_zero, List.getElem?_cons_succ]
      go_wp2_with fail
      refine (encR_any x.r HD.out _).mono ?_
      intro e w3 hw3
      obtain ⟨he3, hb3⟩ := hw3
      subst he3
      have hS3 : Blk w3 w.heap.size 31 (inC x) ∧ Below w.heap.size w w3 ∧ Blk w3 G 5 (va 64 (iv .u8 P5)) ∧ w.heap.size < w3.heap.size := ⟨hS.1.below hb3 hS.1.lt, hS.2.1.trans (hb3.mono hS.2.1.size), hS.2.2.1.below hb3 hS.2.2.1.lt, Nat.lt_of_lt_of_le hS.2.2.2 hb3.size⟩
      clear hb3
      go_wp2_with fail
      refine ⟨rfl, hS3, partsI_last ?_⟩
      simp only [List.cons_append, List.nil_append, List.append_nil, List.filterMap_cons, List.filterMap_nil, List.getElem?_toArray, List.getElem?_cons_zero, List.getElem?_cons_succ]
      have HDC : Hid ((splice (va 64 (iv .u8 P5)).toList 24 (byL (tbyte (strN (encR x.r) 36)) 36)).toArray = va 64 (iv .u8 (inB x))) := by
        show (splice (va 64 (iv .u8 P5)).toList 24 (byL (tbyte (strN (encR x.r) 36)) 36)).toArray = va 64 (iv .u8 (inB x))
        rw [byL_congr (f := tbyte (strN (encR x.r) 36)) (g := encR x.r) fun i hi => strN_at _ _ _ hi (encR_lt x.r HD.out i hi), splice_put 64 24 36 P5 (encR x.r) (by omega)]
        exact va_congr fun i hi => by unfold iv; rw [HI.out i]
      refine wpList_copy_text rfl _ _ 32 9 rfl 5 Try.underlying32 ksizeU8 G 24 40 40 (strN (encR x.r) 36) rfl rfl (va 64 (iv .u8 P5)) 5 hS3.2.2.1 36 (by rw [strN_size]; rfl) (by rw [va_size]; omega) ?_
      rw [HDC.out]
      have HE : Hid (Below w.heap.size w (w3.setRow G (va 64 (iv .u8 (inB x)))) ∧ Blk (w3.setRow G (va 64 (iv .u8 (inB x)))) G 5 (va 64 (iv .u8 (inB x)))) := ⟨below_setRow hS3.2.1 nB _, hS3.2.2.1.set _⟩
      clear hS hS3 HDC HI
      generalize w3.setRow G (va 64 (iv .u8 (inB x))) = w4 at HE ⊢
      go_wp2_with fail
      refine ⟨rfl, ?_⟩
      go_wp2_with fail
      go_ret2
      exact ⟨G, rfl, nB, HE.out.2, HE.out.1⟩
end Go.Proofs.Ytpoaipoadokggaa
