/- A leaf's four inodes: the program's FromLeaf. -/
import Derived.Test.YtpoaipoadokggaaHIoEnc
import Derived.Handy
import Derived.Lib.Strings
import Derived.Test.YtpoaipoadokggaaHNdKit

namespace Go.Proofs.Ytpoaipoadokggaa
set_option maxRecDepth 20000
open Go Go.RowKit
set_option linter.unusedVariables false
set_option linter.unusedSimpArgs false
/-- a size as an int; nought where there is none -/
def szI (n : Nat) : Nat := if n ≤ 9223372036854775807 then n else 0
/-- the reference of a text, or none -/
def tkR (s : ByteArray) (a : Nat) : Rf := if a + 36 ≤ s.size ∧ rOk (decR s a) = true then decR s a else rf0
/-- what the bytes say -/
def prt (s : ByteArray) : Ino := ⟨(tk2 s 0 : Nat), (tk2 s 2 : Nat), (szI (tk8 s 8) : Nat), tk8 s 16, (tk2 s 4 : Nat), tkR s 24⟩
theorem tk2_lt (s : ByteArray) (a : Nat) : tk2 s a < 65536 := by
  unfold tk2
  split
  · exact at2_lt s a
  · decide
theorem tk8_lt (s : ByteArray) (a : Nat) : tk8 s a < 18446744073709551616 := by
  unfold tk8
  split
  · exact at8_lt s a
  · decide
theorem szI_lt (n : Nat) : szI n ≤ 9223372036854775807 := by
  unfold szI
  split
  · assumption
  · decide
theorem prt_w (s : ByteArray) : InW (prt s) := by
  have h1 := tk2_lt s 0
  have h2 := tk2_lt s 2
  have h3 := tk2_lt s 4
  have h4 := szI_lt (tk8 s 8)
  refine ⟨by show _ ∧ _; unfold prt; constructor <;> simp <;> omega, by unfold prt; constructor <;> simp <;> omega, by unfold prt; constructor <;> simp <;> omega, tk8_lt s 16, by unfold prt; constructor <;> simp <;> omega, ?_, ?_⟩
  · show (tkR s 24).1 < _
    unfold tkR
    split
    · exact at4_lt s 24
    · decide
  · show okD (tkR s 24).2
    unfold tkR
    split
    · exact decR_ok s 24
    · exact okD_zero
theorem decodeR_tk (s : ByteArray) (a : Nat) (hs : s.size ≤ maxLen) (ha : a ≤ 64) (w : World) : Calls Try.prog 41 #[.string s, .int .i64 (a : Int)] w fun e w' => (∃ b, e = .returned (.tuple #[.agg (rfC (tkR s a)), .bool b])) ∧ Below w.heap.size w w' := by
  unfold tkR
  by_cases h : a + 36 ≤ s.size
  · refine (decodeR_good s a hs h w).mono fun e w' ⟨h1, h2⟩ => ⟨⟨rOk (decR s a), ?_⟩, h2⟩
    rw [h1]
    cases hr : rOk (decR s a)
    · simp
    · simp [h]
  · refine (decodeR_bad s a (by omega) hs (Or.inr (by omega)) w).mono fun e w' ⟨h1, h2⟩ => ⟨⟨false, ?_⟩, h2⟩
    rw [h1, if_neg (by omega)]
set_option maxHeartbeats 4000000 in
theorem int_any (n : Nat) (hn : n < 18446744073709551616) (w : World) : Calls Try.prog 40 #[.int .u64 (n : Int)] w fun e w' => (∃ b, e = .returned (.tuple #[.int .i64 (szI n : Nat), .int .i64 b])) ∧ w' = w := by
  unfold szI
  by_cases h : n ≤ 9223372036854775807
  · have h1 : ¬ ((9223372036854775807 : Int) < (n : Int)) := by omega
    rw [if_pos h]
    have hw : IntKind.i64.wrap (n : Int) = (n : Int) := wrapI64_id _ (by omega) (by omega)
    go_enter Try.func40, Try.ntmps40
    go_wp2_with fail
    go_ret2
    exact ⟨⟨0, rfl⟩, rfl⟩
  · have h1 : (9223372036854775807 : Int) < (n : Int) := by omega
    rw [if_neg h]
    go_enter Try.func40, Try.ntmps40
    go_wp2_with fail
    go_ret2
    exact ⟨⟨10, rfl⟩, rfl⟩
theorem wpList_build2 {P : Program} {ops : Array Oper} {rest : List Oper} {o : Oper} {a : Act} {w : World} {Q : Exit → Act → World → Prop} (hg : o.guard = none) (t : TypeId) (x y : Operand) (ho : o.op = .build t #[(0, x), (1, y)]) (vx vy : Value) (hx : a.eval x = vx) (hy : a.eval y = vy)
    (cells : Array Value) (hf : P.built t [(0, vx), (1, vy)] = some cells) (h : wpList P ops Q rest (a.put o.dst (.agg cells)) w) : wpList P ops Q (o :: rest) a w := by
  refine wpList_buildTo hg t _ ho o.dst rfl cells ?_ h
  have e : (Array.map (fun (x : Nat × Operand) => match x with | (i, x) => (i, a.eval x)) #[(0, x), (1, y)]).toList = [(0, vx), (1, vy)] := by simp [hx, hy]
  rw [e]
  exact hf
theorem wpList_build5 {P : Program} {ops : Array Oper} {rest : List Oper} {o : Oper} {a : Act} {w : World} {Q : Exit → Act → World → Prop} (hg : o.guard = none) (t : TypeId) (x0 x1 x2 x3 x4 : Operand) (ho : o.op = .build t #[(0, x0), (1, x1), (2, x2), (3, x3), (4, x4)]) (v0 v1 v2 v3 v4 : Value) (h0 : a.eval x0 = v0) (h1 : a.eval x1 = v1) (h2 : a.eval x2 = v2) (h3 : a.eval x3 = v3) (h4 : a.eval x4 = v4)
    (cells : Array Value) (hf : P.built t [(0, v0), (1, v1), (2, v2), (3, v3), (4, v4)] = some cells) (h : wpList P ops Q rest (a.put o.dst (.agg cells)) w) : wpList P ops Q (o :: rest) a w := by
  refine wpList_buildTo hg t _ ho o.dst rfl cells ?_ h
  have e : (Array.map (fun (x : Nat × Operand) => match x with | (i, x) => (i, a.eval x)) #[(0, x0), (1, x1), (2, x2), (3, x3), (4, x4)]).toList = [(0, v0), (1, v1), (2, v2), (3, v3), (4, v4)] := by simp [h0, h1, h2, h3, h4]
  rw [e]
  exact hf
theorem built_tree (h : Int) (r : Rf) : Try.prog.built 29 [(0, .int .i64 h), (1, .agg (rfC r))] = some (tiC h r) := by kernel_rfl
theorem built_ino (x : Ino) : Try.prog.built 31 [(0, .int .i64 x.k), (1, .int .i64 x.l), (2, .int .i64 x.s), (3, .int .u64 ((x.t : Nat) : Int)), (4, .agg (tiC x.h x.r))] = some (inC x) := by kernel_rfl
set_option maxHeartbeats 1000000 in
theorem parts_any (s : ByteArray) (hs : s.size ≤ maxLen) (w : World) : Calls Try.prog 32 #[.string s] w fun e w' => e = .returned (.agg (inC (prt s))) ∧ Below w.heap.size w w' := by
  have hz := zero_ino
  have hzr := zero_ref
  have H0 : Hid (∀ w : World, Calls Try.prog 38 #[.string s, .int .i64 0] w fun e w' => (∃ b, e = .returned (.tuple #[.int .u16 (tk2 s 0 : Int), .bool b])) ∧ Below w.heap.size w w') := take16_tk s 0 hs
  have H2 : Hid (∀ w : World, Calls Try.prog 38 #[.string s, .int .i64 2] w fun e w' => (∃ b, e = .returned (.tuple #[.int .u16 (tk2 s 2 : Int), .bool b])) ∧ Below w.heap.size w w') := take16_tk s 2 hs
  have H4 : Hid (∀ w : World, Calls Try.prog 38 #[.string s, .int .i64 4] w fun e w' => (∃ b, e = .returned (.tuple #[.int .u16 (tk2 s 4 : Int), .bool b])) ∧ Below w.heap.size w w') := take16_tk s 4 hs
  have H8 : Hid (∀ w : World, Calls Try.prog 39 #[.string s, .int .i64 8] w fun e w' => (∃ b, e = .returned (.tuple #[.int .u64 (tk8 s 8 : Int), .bool b])) ∧ Below w.heap.size w w') := take64_tk s 8 hs
  have H16 : Hid (∀ w : World, Calls Try.prog 39 #[.string s, .int .i64 16] w fun e w' => (∃ b, e = .returned (.tuple #[.int .u64 (tk8 s 16 : Int), .bool b])) ∧ Below w.heap.size w w') := take64_tk s 16 hs
  have HR : Hid (∀ w : World, Calls Try.prog 41 #[.string s, .int .i64 24] w fun e w' => (∃ b, e = .returned (.tuple #[.agg (rfC (tkR s 24)), .bool b])) ∧ Below w.heap.size w w') := decodeR_tk s 24 hs (by decide)
  have HI : Hid (∀ w : World, Calls Try.prog 40 #[.int .u64 (tk8 s 8 : Int)] w fun e w' => (∃ b, e = .returned (.tuple #[.int .i64 (szI (tk8 s 8) : Nat), .int .i64 b])) ∧ w' = w) := int_any _ (tk8_lt s 8)
  have HP : Hid (prt s = ⟨(tk2 s 0 : Nat), (tk2 s 2 : Nat), (szI (tk8 s 8) : Nat), tk8 s 16, (tk2 s 4 : Nat), tkR s 24⟩) := rfl
  have k0 := tk2_lt s 0
  have k2 := tk2_lt s 2
  have k4 := tk2_lt s 4
  generalize szI (tk8 s 8) = sz at *
  generalize tk2 s 0 = n0 at *
  generalize tk2 s 2 = n2 at *
  generalize tk2 s 4 = n4 at *
  generalize tk8 s 8 = n8 at *
  generalize tk8 s 16 = n16 at *
  generalize tkR s 24 = rr at *
  have v0 : IntKind.i64.wrap (n0 : Int) = (n0 : Int) := wrapI64_id _ (by omega) (by omega)
  have v2 : IntKind.i64.wrap (n2 : Int) = (n2 : Int) := wrapI64_id _ (by omega) (by omega)
  have v4 : IntKind.i64.wrap (n4 : Int) = (n4 : Int) := wrapI64_id _ (by omega) (by omega)
  have HB0 : Hid (Below w.heap.size w (w.alloc (.cells (inC in0) 31)) ∧ Blk (w.alloc (.cells (inC in0) 31)) w.heap.size 31 (inC in0)) := ⟨below_new1 _ _, Blk.new _ _ _⟩
  generalize prt s = X at *
  go_enter Try.func32, Try.ntmps32
  go_wp2_with fail
  refine (H0.out _).mono ?_
  intro e w1 hw1
  obtain ⟨⟨b1, he1⟩, hb1⟩ := hw1
  subst he1
  have HB1 : Hid (Below w.heap.size w w1 ∧ Blk w1 w.heap.size 31 (inC in0)) := ⟨HB0.out.1.trans (hb1.mono HB0.out.1.size), HB0.out.2.below hb1 HB0.out.2.lt⟩
  clear hb1 HB0
  go_wp2_with fail
  refine (H2.out _).mono ?_
  intro e w2 hw2
  obtain ⟨⟨b2, he2⟩, hb2⟩ := hw2
  subst he2
  have HB2 : Hid (Below w.heap.size w w2 ∧ Blk w2 w.heap.size 31 (inC in0)) := ⟨HB1.out.1.trans (hb2.mono HB1.out.1.size), HB1.out.2.below hb2 HB1.out.2.lt⟩
  clear hb2 HB1
  go_wp2_with fail
  refine (H4.out _).mono ?_
  intro e w3 hw3
  obtain ⟨⟨b3, he3⟩, hb3⟩ := hw3
  subst he3
  have HB3 : Hid (Below w.heap.size w w3 ∧ Blk w3 w.heap.size 31 (inC in0)) := ⟨HB2.out.1.trans (hb3.mono HB2.out.1.size), HB2.out.2.below hb3 HB2.out.2.lt⟩
  clear hb3 HB2
  go_wp2_with fail
  refine (H8.out _).mono ?_
  intro e w4 hw4
  obtain ⟨⟨b4, he4⟩, hb4⟩ := hw4
  subst he4
  have HB4 : Hid (Below w.heap.size w w4 ∧ Blk w4 w.heap.size 31 (inC in0)) := ⟨HB3.out.1.trans (hb4.mono HB3.out.1.size), HB3.out.2.below hb4 HB3.out.2.lt⟩
  clear hb4 HB3
  go_wp2_with fail
  refine (HI.out _).mono ?_
  intro e w5 hw5
  obtain ⟨⟨b5, he5⟩, hb5⟩ := hw5
  subst he5 hb5
  go_wp2_with fail
  refine (H16.out _).mono ?_
  intro e w6 hw6
  obtain ⟨⟨b6, he6⟩, hb6⟩ := hw6
  subst he6
  have HB6 : Hid (Below w.heap.size w w6 ∧ Blk w6 w.heap.size 31 (inC in0)) := ⟨HB4.out.1.trans (hb6.mono HB4.out.1.size), HB4.out.2.below hb6 HB4.out.2.lt⟩
  clear hb6 HB4
  go_wp2_with fail
  refine (HR.out _).mono ?_
  intro e w7 hw7
  obtain ⟨⟨b7, he7⟩, hb7⟩ := hw7
  subst he7
  have HB7 : Hid (Below w.heap.size w w7 ∧ Blk w7 w.heap.size 31 (inC in0)) := ⟨HB6.out.1.trans (hb7.mono HB6.out.1.size), HB6.out.2.below hb7 HB6.out.2.lt⟩
  clear hb7 HB6 H0 H2 H4 H8 H16 HI HR
  have q7 : Blk (w7.alloc (.cells (rfC rf0) 27)) w7.heap.size 27 (rfC rf0) := Blk.new _ _ _
  have q8 : Blk ((w7.alloc (.cells (rfC rf0) 27)).setRow w7.heap.size (rfC rr)) w7.heap.size 27 (rfC rr) := q7.set _
  have q9 : Blk ((w7.alloc (.cells (rfC rf0) 27)).setRow w7.heap.size (rfC rr)) w.heap.size 31 (inC in0) := (HB7.out.2.alloc _).other _ (by have := HB7.out.2.lt; omega)
  have HB8 : Hid (Below w.heap.size w ((w7.alloc (.cells (rfC rf0) 27)).setRow w7.heap.size (rfC rr))) := below_setRow (HB7.out.1.alloc HB7.out.1.size _) HB7.out.1.size _
  have hbt := built_tree (n4 : Int) rr
  have hbi := built_ino X
  rw [HP.out] at hbi
  simp only at hbi
  rw [← HP.out] at hbi
  go_wp2_with (first
    | (refine wpList_store_row (by rfl) 27 _ _ (by rfl) (w7.heap.size) (rfC rr) (by rfl) (by rfl) 27 (rfC rf0) (by exact q7) (slSizeRef.trans (by rw [rfC_size])) (by simp only [rfC_size]) (rfC_all _) ?_; simp only [Act.put, List.setIfInBounds_toArray, List.set_cons_zero, List.set_cons_succ])
    | (refine wpList_load_rowg (by rfl) 27 _ (by rfl) (w7.heap.size) (by rfl) 27 (rfC rr) (0, 0) _ (by exact q8) Try.underlying27 (by rfl) (slSizeRef.trans (by rw [rfC_size])) ?_; simp only [Act.put, List.setIfInBounds_toArray, List.set_cons_zero, List.set_cons_succ])
    | (refine wpList_build2 (by rfl) 29 _ _ (by rfl) (.int .i64 (n4 : Int)) (.agg (rfC rr)) (by rfl) (by rfl) (tiC (n4 : Int) rr) hbt ?_; simp only [Act.put, List.setIfInBounds_toArray, List.set_cons_zero, List.set_cons_succ])
    | (refine wpList_build5 (by rfl) 31 _ _ _ _ _ (by rfl) (.int .i64 (n0 : Int)) (.int .i64 (n2 : Int)) (.int .i64 (sz : Int)) (.int .u64 (n16 : Int)) (.agg (tiC (n4 : Int) rr)) (by rfl) (by rfl) (by rfl) (by rfl) (by rfl) (inC X) hbi ?_; simp only [Act.put, List.setIfInBounds_toArray, List.set_cons_zero, List.set_cons_succ])
    | (refine wpList_store_row (by rfl) 31 _ _ (by rfl) (w.heap.size) (inC X) (by rfl) (by rfl) 31 (inC in0) (by exact q9) (sizeIno.trans (by rw [inC_size])) (by simp only [inC_size]) (inC_all _) ?_; simp only [Act.put, List.setIfInBounds_toArray, List.set_cons_zero, List.set_cons_succ])
    | fail)
  try simp only [Exit.inBlock, Exit.then]
  refine bodyPost_ret (results_cell_row Try.results32 _ _ (w.heap.size) 31 (inC X) (0, 0) _ rfl (q9.set _) Try.underlying31 rfl (sizeIno.trans (by rw [inC_size]))) rfl ?_
  exact ⟨rfl, below_setRow HB8.out (Nat.le_refl _) _⟩
end Go.Proofs.Ytpoaipoadokggaa

namespace Go.Proofs.Ytpoaipoadokggaa
set_option maxRecDepth 20000
open Go Go.RowKit
set_option linter.unusedVariables false
set_option linter.unusedSimpArgs false
/-- a slice of bytes that says a text -/
def IsB (w : World) (v : Value) (s : ByteArray) : Prop := ∀ W, Below w.heap.size w W → (convert 32 9 v).run Try.prog W = .ok (.string s) W
theorem IsB.below {w w' : World} {v : Value} {s : ByteArray} (h : IsB w v s) (hb : Below w.heap.size w w') : IsB w' v s := fun W hW => h W (hb.trans (hW.mono hb.size))
theorem IsB.own {w : World} {g T o n c N : Nat} {f : Nat → Nat} (h : Blk w g T (va N (iv .u8 f))) (hn : o + n ≤ N) : IsB w (.slice (some ⟨g, o, none⟩) n c) (strN (fun j => f (o + j)) n) := fun W hW => by
  exact run_bytes_text (P := Try.prog) W 32 5 9 Try.underlying32 Try.underlying5 Try.underlying9 (h.below hW h.lt) o n c hn
theorem IsB.all {w : World} {g T c N : Nat} {f : Nat → Nat} (h : Blk w g T (va N (iv .u8 f))) : IsB w (.slice (some ⟨g, 0, none⟩) N c) (strN f N) := by
  have := IsB.own (c := c) h (o := 0) (n := N) (by omega)
  rwa [show (fun j => f (0 + j)) = f by funext j; rw [Nat.zero_add]] at this
theorem text_ne {T s : ByteArray} (h : ¬ T = s) : (T.toList == s.toList) = false := by
  rw [beq_eq_false_iff_ne]
  intro e
  rw [Lib.toList_data, Lib.toList_data] at e
  refine h ?_
  cases T
  cases s
  congr 1
  exact Array.toList_inj.1 e
def decOk (s : ByteArray) : Bool := chk (prt s) && decide (strN (inB (prt s)) 64 = s)
def decV (s : ByteArray) : Ino := if decOk s = true then prt s else in0
def decE (s : ByteArray) : Int := if decOk s = true then 0 else 140
set_option maxHeartbeats 2000000 in
theorem decode_any (v : Value) (s : ByteArray) (hs : s.size ≤ maxLen) (w : World) (hv : IsB w v s) : Calls Try.prog 12 #[v] w fun e w' => e = .returned (.tuple #[.agg (inC (decV s)), .int .i64 (decE s)]) ∧ Below w.heap.size w w' := by
  have hz := zero_ino
  have HB0 : Hid (Below w.heap.size w (w.alloc (.cells (inC in0) 31)) ∧ Blk (w.alloc (.cells (inC in0) 31)) w.heap.size 31 (inC in0)) := ⟨below_new1 _ _, Blk.new _ _ _⟩
  have hcv := hv _ HB0.out.1
  have HP : Hid (∀ w : World, Calls Try.prog 32 #[.string s] w fun e w' => e = .returned (.agg (inC (prt s))) ∧ Below w.heap.size w w') := parts_any s hs
  have HV : Hid (decV s = if decOk s = true then prt s else in0) := rfl
  have HE : Hid (decE s = if decOk s = true then 0 else 140) := rfl
  have HK : Hid (decOk s = (chk (prt s) && decide (strN (inB (prt s)) 64 = s))) := rfl
  have hw := prt_w s
  generalize decV s = V at *
  generalize decE s = E at *
  generalize decOk s = K at *
  generalize prt s = X at *
  clear hv
  go_enter Try.func12, Try.ntmps12
  go_wp2_with fail
  generalize (w.alloc (.cells (inC in0) 31)) = w0 at *
  refine (HP.out _).mono ?_
  intro e w1 hw1
  obtain ⟨he1, hb1⟩ := hw1
  subst he1
  have q1 : Blk (w1.alloc (.cells (inC in0) 31)) w1.heap.size 31 (inC in0) := Blk.new _ _ _
  have q2 : Blk ((w1.alloc (.cells (inC in0) 31)).setRow w1.heap.size (inC X)) w1.heap.size 31 (inC X) := q1.set _
  have HB1 : Hid (Below w.heap.size w w1 ∧ Blk w1 w.heap.size 31 (inC in0)) := ⟨HB0.out.1.trans (hb1.mono HB0.out.1.size), HB0.out.2.below hb1 HB0.out.2.lt⟩
  have HB2 : Hid (Below w.heap.size w ((w1.alloc (.cells (inC in0) 31)).setRow w1.heap.size (inC X)) ∧ Blk ((w1.alloc (.cells (inC in0) 31)).setRow w1.heap.size (inC X)) w.heap.size 31 (inC in0)) :=
    ⟨below_setRow (HB1.out.1.alloc HB1.out.1.size _) HB1.out.1.size _, (HB1.out.2.alloc _).other _ (by have := HB1.out.2.lt; omega)⟩
  have hne : w.heap.size < w1.heap.size := HB1.out.2.lt
  clear hb1 HB0 HB1 HP hcv
  go_wp2_with (first
    | (refine wpList_store_row (by rfl) 31 _ _ (by rfl) (w1.heap.size) (inC X) (by rfl) (by rfl) 31 (inC in0) (by exact q1) (sizeIno.trans (by rw [inC_size])) (by simp only [inC_size]) (inC_all _) ?_; simp only [Act.put, List.setIfInBounds_toArray, List.set_cons_zero, List.set_cons_succ])
    | (refine wpList_load_row (by rfl) 31 _ (by rfl) (w1.heap.size) (by rfl) 31 (inC X) (0, 0) _ (by exact q2) Try.underlying31 (by rfl) (sizeIno.trans (by rw [inC_size])) ?_; simp only [Act.put, List.setIfInBounds_toArray, List.set_cons_zero, List.set_cons_succ])
    | fail)
  clear q1
  generalize ((w1.alloc (.cells (inC in0) 31)).setRow w1.heap.size (inC X)) = w2 at *
  generalize w1.heap.size = gx at *
  cases hc : chk X
  · refine (encode_no X hw hc _).mono ?_
    intro e w3 hw3
    obtain ⟨he3, hb3⟩ := hw3
    subst he3
    have q3 : Blk w3 w.heap.size 31 (inC in0) := HB2.out.2.below hb3 HB2.out.2.lt
    have HB3 : Hid (Below w.heap.size w w3) := HB2.out.1.trans (hb3.mono HB2.out.1.size)
    have HF : Hid (V = in0 ∧ E = 140) := by
      have hk : K = false := by rw [HK.out, hc]; rfl
      exact ⟨by rw [HV.out, hk]; rfl, by rw [HE.out, hk]; rfl⟩
    clear hb3 HB2 q2 HV HE HK
    go_wp2_with (first
      | (refine wpList_store_row (by rfl) 31 _ _ (by rfl) (w.heap.size) (inC in0) (by rfl) (by rfl) 31 (inC in0) (by exact q3) (sizeIno.trans (by rw [inC_size])) (by simp only [inC_size]) (inC_all _) ?_; simp only [Act.put, List.setIfInBounds_toArray, List.set_cons_zero, List.set_cons_succ])
      | fail)
    try simp only [Exit.inBlock, Exit.then]
    refine bodyPost_ret (results_row2 Try.results12 _ _ (w.heap.size) 31 (inC in0) (0, 0) _ rfl (q3.set _) Try.underlying31 rfl (sizeIno.trans (by rw [inC_size]))) rfl ?_
    exact ⟨by rw [HF.out.1, HF.out.2]; rfl, below_setRow HB3.out (Nat.le_refl _) _⟩
  · refine (encode_ok X hw hc _).mono ?_
    intro e w3 hw3
    obtain ⟨g, he3, hg3, hk3, hb3⟩ := hw3
    subst he3
    have q3 : Blk w3 w.heap.size 31 (inC in0) := HB2.out.2.below hb3 HB2.out.2.lt
    have q4 : Blk w3 gx 31 (inC X) := q2.below hb3 q2.lt
    have HB3 : Hid (Below w.heap.size w w3) := HB2.out.1.trans (hb3.mono HB2.out.1.size)
    have hcv := IsB.all (c := 64) hk3 w3 (Below.refl _ _)
    have HK2 : Hid (K = decide (strN (inB X) 64 = s)) := by rw [HK.out, hc]; exact rfl
    clear hb3 HB2 q2 HK hk3
    generalize strN (inB X) 64 = T at *
    by_cases hT : T = s
    · have HF : Hid (V = X ∧ E = 0) := by
        have hk : K = true := by rw [HK2.out, decide_eq_true hT]
        exact ⟨by rw [HV.out, hk]; rfl, by rw [HE.out, hk]; rfl⟩
      clear HV HE HK2
      subst hT
      go_wp2_with (first
        | (refine wpList_load_row (by rfl) 31 _ (by rfl) gx (by rfl) 31 (inC X) (0, 0) _ (by exact q4) Try.underlying31 (by rfl) (sizeIno.trans (by rw [inC_size])) ?_; simp only [Act.put, List.setIfInBounds_toArray, List.set_cons_zero, List.set_cons_succ])
        | (refine wpList_store_row (by rfl) 31 _ _ (by rfl) (w.heap.size) (inC X) (by rfl) (by rfl) 31 (inC in0) (by exact q3) (sizeIno.trans (by rw [inC_size])) (by simp only [inC_size]) (inC_all _) ?_; simp only [Act.put, List.setIfInBounds_toArray, List.set_cons_zero, List.set_cons_succ])
        | fail)
      try simp only [Exit.inBlock, Exit.then]
      refine bodyPost_ret (results_row2 Try.results12 _ _ (w.heap.size) 31 (inC X) (0, 0) _ rfl (q3.set _) Try.underlying31 rfl (sizeIno.trans (by rw [inC_size]))) rfl ?_
      exact ⟨by rw [HF.out.1, HF.out.2]; rfl, below_setRow HB3.out (Nat.le_refl _) _⟩
    · have HF : Hid (V = in0 ∧ E = 140) := by
        have hk : K = false := by rw [HK2.out, decide_eq_false hT]
        exact ⟨by rw [HV.out, hk]; rfl, by rw [HE.out, hk]; rfl⟩
      have hTl := text_ne hT
      clear HV HE HK2
      go_wp2_with (first
        | (refine wpList_store_row (by rfl) 31 _ _ (by rfl) (w.heap.size) (inC in0) (by rfl) (by rfl) 31 (inC in0) (by exact q3) (sizeIno.trans (by rw [inC_size])) (by simp only [inC_size]) (inC_all _) ?_; simp only [Act.put, List.setIfInBounds_toArray, List.set_cons_zero, List.set_cons_succ])
        | fail)
      try simp only [Exit.inBlock, Exit.then]
      refine bodyPost_ret (results_row2 Try.results12 _ _ (w.heap.size) 31 (inC in0) (0, 0) _ rfl (q3.set _) Try.underlying31 rfl (sizeIno.trans (by rw [inC_size]))) rfl ?_
      exact ⟨by rw [HF.out.1, HF.out.2]; rfl, below_setRow HB3.out (Nat.le_refl _) _⟩
end Go.Proofs.Ytpoaipoadokggaa

namespace Go.Proofs.Ytpoaipoadokggaa
set_option maxRecDepth 20000
open Go Go.RowKit
set_option linter.unusedVariables false
set_option linter.unusedSimpArgs false
def foF (L : Nat → Ino) : Nat → Value := fun i => inF (L (i / 38)) (i % 38)
def foC (L : Nat → Ino) : Array Value := va 152 (foF L)
theorem foC_size (L : Nat → Ino) : (foC L).size = 152 := va_size _ _
theorem foC_all (L : Nat → Ino) : (foC L).all (·.oneCell') = true := va_one fun i _ => inF_one _ _
theorem foF_at (L : Nat → Ino) (i j : Nat) (hj : j < 38) : foF L (i * 38 + j) = inF (L i) j := by
  unfold foF
  rw [show (i * 38 + j) / 38 = i by omega, show (i * 38 + j) % 38 = j by omega]
theorem fo_extract (L : Nat → Ino) (i : Nat) (hi : i < 4) : (foC L).extract (i * 38) (i * 38 + 38) = inC (L i) := by
  unfold foC inC
  rw [va_extract 152 (i * 38) 38 _ (by omega)]
  exact va_congr fun j hj => foF_at L i j hj
theorem fo_congr {L L' : Nat → Ino} (h : ∀ i, i < 4 → L i = L' i) : foC L = foC L' := va_congr fun i hi => by
  unfold foF
  rw [h (i / 38) (by omega)]
def foSet (L : Nat → Ino) (i : Nat) (x : Ino) : Nat → Ino := fun j => if j = i then x else L j
theorem fo_over (L : Nat → Ino) (i : Nat) (x : Ino) (hi : i < 4) : va 152 (over (foF L) (i * 38) (inC x).toList) = va 152 (foF (foSet L i x)) := va_congr fun j hj => by
  have hl : (inC x).toList.length = 38 := by rw [Array.length_toList, inC_size]
  unfold over
  rw [hl]
  by_cases h : i * 38 ≤ j ∧ j < i * 38 + 38
  · rw [if_pos h]
    obtain ⟨d, rfl⟩ : ∃ d, j = i * 38 + d := ⟨j - i * 38, by omega⟩
    rw [show i * 38 + d - i * 38 = d by omega, foF_at _ i d (by omega)]
    have e : foSet L i x i = x := by
      unfold foSet
      rw [if_pos rfl]
    rw [e]
    have := va_at (inF x) (show d < 38 by omega)
    unfold inC
    rw [List.getD_eq_getElem?_getD, Array.getElem?_toList, this]
    rfl
  · rw [if_neg h]
    unfold foF
    have e : foSet L i x (j / 38) = L (j / 38) := by
      unfold foSet
      rw [if_neg (by omega)]
    rw [e]
theorem sizeFo : (Try.prog.info? 58).map (·.size) = some 152 := by kernel_rfl
theorem zero_fo (w : World) : (zeroValue 58).run Try.prog w = .ok (.agg (foC fun _ => in0)) w := zero_of (by kernel_rfl) w
theorem run_index_ino (L : Nat → Ino) (k : Nat) (hk : k < 4) (w : World) : (Instr.index 58 (.agg (foC L)) (.int .i64 (k : Int))).run Try.prog w = .ok (.agg (inC (L k))) w := by
  have hp := part_agg 31 38 _ Try.underlying31 rfl sizeIno (foC L) (inC (L k)) (k * 38) (fo_extract L k hk) w
  have hz := size_at 31 38 sizeIno w
  have h1 : (k : Int) < 4 := by omega
  simp [Instr.index, asIntOf, run_underlying Try.underlying58, h1, hz, hp]
  intro h
  omega
/-- the first of four that is not well; four where all are -/
def bdF (c : Nat → Bool) : Nat := if c 0 = false then 0 else if c 1 = false then 1 else if c 2 = false then 2 else if c 3 = false then 3 else 4
def leA (c : Nat → Bool) : Int := if bdF c = 4 then 0 else (bdF c : Nat)
def leE (c : Nat → Bool) : Int := if bdF c = 4 then 0 else 140
theorem bd_ok {c : Nat → Bool} (h : ∀ p, p < 4 → c p = true) : bdF c = 4 := by
  unfold bdF
  rw [h 0 (by decide), h 1 (by decide), h 2 (by decide), h 3 (by decide)]
  rfl
theorem bd_all {c : Nat → Bool} (h : bdF c = 4) : ∀ p, p < 4 → c p = true := by
  unfold bdF at h
  cases h0 : c 0 <;> cases h1 : c 1 <;> cases h2 : c 2 <;> cases h3 : c 3 <;> rw [h0, h1, h2, h3] at h <;> simp at h
  intro p hp
  match p, hp with
  | 0, _ => exact h0
  | 1, _ => exact h1
  | 2, _ => exact h2
  | 3, _ => exact h3
theorem bd_bad {c : Nat → Bool} {p : Nat} (hp : p < 4) (h : ∀ q, q < p → c q = true) (hc : c p = false) : bdF c = p := by
  unfold bdF
  match p, hp with
  | 0, _ => rw [hc]; rfl
  | 1, _ => rw [h 0 (by decide), hc]; rfl
  | 2, _ => rw [h 0 (by decide), h 1 (by decide), hc]; rfl
  | 3, _ => rw [h 0 (by decide), h 1 (by decide), h 2 (by decide), hc]; rfl
theorem res_row3 {P : Program} {fn : Func} {p u v : Tmp} {ty : TypeId} (h : fn.results = #[.cell p ty, .tmp u, .tmp v]) (tmps : Array Value) (w : World) (g : Nat) (t : TypeId) (cs : Array Value) (fr : Nat × Nat) (d : TypeDesc)
    (hp : tmps.getD p undef = .pointer (some ⟨g, 0, none⟩)) (hg : w.heap[g]? = some (.cells cs t fr))
    (hu : P.underlying ty = some d) (hd : (match d with | .struct _ | .array _ _ => true | _ => false) = true) (hi : (P.info? ty).map (·.size) = some cs.size) :
    (results fn tmps).run P w = .ok (.tuple #[.agg cs, tmps.getD u undef, tmps.getD v undef]) w := by
  have hp' : tmps[p]?.getD undef = .pointer (some ⟨g, 0, none⟩) := by simpa using hp
  simp [results, h, hp', asAddr, run_loadVar_row w g t ty cs fr d hg hu hd hi]
/-- a leaf's bytes, the first m inodes laid -/
def lfF (L : Nat → Ino) (m : Nat) (j : Nat) : Nat := if j < 64 * m then inB (L (j / 64)) (j % 64) else 0
theorem inB_lt (x : Ino) (hx : okD x.r.2) (j : Nat) : inB x j < 256 := by
  have hd : ∀ a b, dig a b < 256 := fun a b => Nat.mod_lt _ (by decide)
  unfold inB
  split
  · exact hd _ _
  · split
    · exact hd _ _
    · split
      · exact hd _ _
      · split
        · decide
        · split
          · exact hd _ _
          · split
            · exact hd _ _
            · split
              · exact encR_lt x.r hx _ (by omega)
              · decide
theorem lfF_step (L : Nat → Ino) (m : Nat) (hx : okD (L m).r.2) (j : Nat) : putAt (lfF L m) (m * 64) 64 (tbyte (strN (inB (L m)) 64)) j = lfF L (m + 1) j := by
  unfold putAt
  by_cases h : m * 64 ≤ j ∧ j < m * 64 + 64
  · rw [if_pos h, strN_at _ _ _ (by omega) (inB_lt _ hx _)]
    unfold lfF
    rw [if_pos (by omega), show j / 64 = m by omega, show j - m * 64 = j % 64 by omega]
  · rw [if_neg h]
    unfold lfF
    by_cases h2 : j < 64 * m
    · rw [if_pos h2, if_pos (by omega)]
    · rw [if_neg h2, if_neg (by omega)]
end Go.Proofs.Ytpoaipoadokggaa

namespace Go.Proofs.Ytpoaipoadokggaa
set_option maxRecDepth 20000
open Go Go.RowKit
set_option linter.unusedVariables false
set_option linter.unusedSimpArgs false
def chkA (L : Nat → Ino) : Nat → Bool := fun p => chk (L p)
/-- what Leaf lays -/
def leB (L : Nat → Ino) : Nat → Nat := if bdF (chkA L) = 4 then lfF L 4 else fun _ => 0
set_option maxHeartbeats 4000000 in
theorem leaf14_any (L : Nat → Ino) (hL : ∀ i, i < 4 → InW (L i)) (w : World) : Calls Try.prog 21 #[.agg (foC L)] w fun e w' => e = .returned (.tuple #[.agg (va 256 (iv .u8 (leB L))), .int .i64 (leA (chkA L)), .int .i64 (leE (chkA L))]) ∧ Below w.heap.size w w' := by
  have hz := zero_bk
  have hzi := zero_ino
  have r0 : Blk (w.alloc (.cells (foC L) 58)) w.heap.size 58 (foC L) := Blk.new _ _ _
  have HEN : Hid (∀ p, p < 4 → chk (L p) = false → ∀ w : World, Calls Try.prog 8 #[.agg (inC (L p))] w fun e w' => e = .returned (.tuple #[.slice none 0 0, .int .i64 140]) ∧ Below w.heap.size w w') := fun p hp hc => encode_no (L p) (hL p hp) hc
  have HEY : Hid (∀ p, p < 4 → chk (L p) = true → ∀ w : World, Calls Try.prog 8 #[.agg (inC (L p))] w fun e w' => ∃ g, e = .returned (.tuple #[.slice (some ⟨g, 0, none⟩) 64 64, .int .i64 0]) ∧ w.heap.size ≤ g ∧ Blk w' g 5 (va 64 (iv .u8 (inB (L p)))) ∧ Below w.heap.size w w') := fun p hp hc => encode_ok (L p) (hL p hp) hc
  have HBD : Hid (∀ p, p < 4 → (∀ q, q < p → chk (L q) = true) → chk (L p) = false → leB L = (fun _ => 0) ∧ leA (chkA L) = (p : Int) ∧ leE (chkA L) = 140) := fun p hp h1 h2 => by
    have hb := bd_bad (c := chkA L) hp h1 h2
    unfold leB leA leE
    rw [hb, if_neg (by omega), if_neg (by omega), if_neg (by omega)]
    exact ⟨rfl, rfl, rfl⟩
  have HGD : Hid ((∀ q, q < 4 → chk (L q) = true) → leB L = lfF L 4 ∧ leA (chkA L) = 0 ∧ leE (chkA L) = 0) := fun h1 => by
    have hb := bd_ok (c := chkA L) h1
    unfold leB leA leE
    rw [hb]
    exact ⟨rfl, rfl, rfl⟩
  generalize leB L = OB at *
  generalize leA (chkA L) = OA at *
  generalize leE (chkA L) = OE at *
  go_enter Try.func21, Try.ntmps21
  have H0 : Hid (Blk ((((w.alloc (.cells (foC L) 58)).alloc (.cells (va 256 (iv .u8 fun _ => 0)) 60)).alloc (.cells (va 256 (iv .u8 fun _ => 0)) 60))) (w.heap.size + 1) 60 (va 256 (iv .u8 fun _ => 0)) ∧ Blk ((((w.alloc (.cells (foC L) 58)).alloc (.cells (va 256 (iv .u8 fun _ => 0)) 60)).alloc (.cells (va 256 (iv .u8 fun _ => 0)) 60))) (w.heap.size + 1 + 1) 60 (va 256 (iv .u8 fun _ => 0)) ∧ Below w.heap.size w ((((w.alloc (.cells (foC L) 58)).alloc (.cells (va 256 (iv .u8 fun _ => 0)) 60)).alloc (.cells (va 256 (iv .u8 fun _ => 0)) 60)))) :=
    ⟨(Blk.new1 _ _ _ _).alloc _, by
      have := Blk.new ((w.alloc (.cells (foC L) 58)).alloc (.cells (va 256 (iv .u8 fun _ => 0)) 60)) 60 (va 256 (iv .u8 fun _ => 0))
      rw [show ((w.alloc (.cells (foC L) 58)).alloc (.cells (va 256 (iv .u8 fun _ => 0)) 60)).heap.size = w.heap.size + 1 + 1 by simp] at this
      exact this, (below_new2 _ _ _).alloc (by simp; omega) _⟩
  have r3 : Blk ((((w.alloc (.cells (foC L) 58)).alloc (.cells (va 256 (iv .u8 fun _ => 0)) 60)).alloc (.cells (va 256 (iv .u8 fun _ => 0)) 60))) w.heap.size 58 (foC L) := (r0.alloc _).alloc _
  go_wp2_with (first
    | (refine wpList_load_row (by rfl) 58 _ (by rfl) (w.heap.size) (by rfl) 58 (foC L) (0, 0) _ (by exact r3) Try.underlying58 (by rfl) (sizeFo.trans (by rw [foC_size])) ?_; simp only [Act.put, List.setIfInBounds_toArray, List.set_cons_zero, List.set_cons_succ])
    | fail)
  clear r0 r3
  generalize ((((w.alloc (.cells (foC L) 58)).alloc (.cells (va 256 (iv .u8 fun _ => 0)) 60)).alloc (.cells (va 256 (iv .u8 fun _ => 0)) 60))) = w1 at *
  go_loopw [11] (fun i wr => Hid (∃ p : Nat, p ≤ 4 ∧ i = .int .i64 (p : Int) ∧ (∀ q, q < p → chk (L q) = true) ∧ Blk wr (w.heap.size + 1) 60 (va 256 (iv .u8 fun _ => 0)) ∧ Blk wr (w.heap.size + 1 + 1) 60 (va 256 (iv .u8 (lfF L p))) ∧ Below w.heap.size w wr)) (fun i _ => 4 - (intOf i).toNat)
  case atStart => exact ⟨0, by omega, rfl, fun q hq => by omega, H0.out.1, by rw [va_congr (f := iv .u8 (lfF L 0)) (g := iv .u8 fun _ => 0) fun i _ => by unfold iv lfF; rw [if_neg (by omega)]]; exact H0.out.2.1, H0.out.2.2⟩
  case round =>
    obtain ⟨p, hp, rfl, hok, c1, c2, hb⟩ := Hid.out hrel
    clear hrel H0
    by_cases h4 : p < 4
    · have p1 : (p : Int) < 4 := by omega
      have hx := run_index_ino L p h4
      have q1 : Blk (wr.alloc (.cells (inC in0) 31)) wr.heap.size 31 (inC in0) := Blk.new _ _ _
      have q2 : Blk ((wr.alloc (.cells (inC in0) 31)).setRow wr.heap.size (inC (L p))) wr.heap.size 31 (inC (L p)) := q1.set _
      have HS : Hid (Blk ((wr.alloc (.cells (inC in0) 31)).setRow wr.heap.size (inC (L p))) (w.heap.size + 1) 60 (va 256 (iv .u8 fun _ => 0)) ∧ Blk ((wr.alloc (.cells (inC in0) 31)).setRow wr.heap.size (inC (L p))) (w.heap.size + 1 + 1) 60 (va 256 (iv .u8 (lfF L p))) ∧ Below w.heap.size w ((wr.alloc (.cells (inC in0) 31)).setRow wr.heap.size (inC (L p)))) :=
        ⟨(c1.alloc _).other _ (by have := c1.lt; omega), (c2.alloc _).other _ (by have := c2.lt; omega), below_setRow (hb.alloc hb.size _) hb.size _⟩
      have HOK : Hid (∀ q, q < p → chk (L q) = true) := hok
      have HENp := HEN.out p h4
      have HEYp := HEY.out p h4
      have HBDp := HBD.out p h4 hok
      have HST : Hid (okD (L p).r.2) := (hL p h4).d
      have HE1 : Hid (∀ j, putAt (lfF L p) (p * 64) 64 (tbyte (strN (inB (L p)) 64)) j = lfF L (p + 1) j) := lfF_step L p HST.out
      clear c1 c2 hb hok HEN HEY HBD HGD
      go_wp2_with (first
        | (refine wpList_store_row (by rfl) 31 _ _ (by rfl) (wr.heap.size) (inC (L p)) (by rfl) (by rfl) 31 (inC in0) (by exact q1) (sizeIno.trans (by rw [inC_size])) (by simp only [inC_size]) (inC_all _) ?_; simp only [Act.put, List.setIfInBounds_toArray, List.set_cons_zero, List.set_cons_succ])
        | (refine wpList_load_row (by rfl) 31 _ (by rfl) (wr.heap.size) (by rfl) 31 (inC (L p)) (0, 0) _ (by exact q2) Try.underlying31 (by rfl) (sizeIno.trans (by rw [inC_size])) ?_; simp only [Act.put, List.setIfInBounds_toArray, List.set_cons_zero, List.set_cons_succ])
        | fail)
      generalize ((wr.alloc (.cells (inC in0) 31)).setRow wr.heap.size (inC (L p))) = w2 at *
      clear q1 q2 hx
      cases hc : chk (L p)
      · refine (HENp hc _).mono ?_
        intro e w3 hw3
        obtain ⟨he3, hb3⟩ := hw3
        subst he3
        have d1 : Blk w3 (w.heap.size + 1) 60 (va 256 (iv .u8 fun _ => 0)) := HS.out.1.below hb3 HS.out.1.lt
        have HB3 : Hid (Below w.heap.size w w3) := HS.out.2.2.trans (hb3.mono HS.out.2.2.size)
        obtain ⟨e1, e2, e3⟩ := HBDp hc
        have HF : Hid (OB = (fun _ => 0) ∧ OA = (p : Int) ∧ OE = 140) := ⟨e1, e2, e3⟩
        clear e1 e2 e3 hb3 HS HBDp HENp HEYp
        go_wp2_with (first
          | (refine wpList_store_row (by rfl) 60 _ _ (by rfl) (w.heap.size + 1) (va 256 (iv .u8 (fun _ => 0))) (by rfl) (by rfl) 60 _ (by exact d1) (sizeBk.trans (by rw [va_size])) (by simp only [va_size]) (iv_one _ _ _) ?_; simp only [Act.put, List.setIfInBounds_toArray, List.set_cons_zero, List.set_cons_succ])
          | fail)
        try simp only [Exit.inBlock, Exit.then]
        refine bodyPost_ret (res_row3 Try.results21 _ _ (w.heap.size + 1) 60 (va 256 (iv .u8 fun _ => 0)) (0, 0) _ rfl (d1.set _) Try.underlying60 rfl (sizeBk.trans (by rw [va_size]))) rfl ?_
        exact ⟨by rw [HF.out.1, HF.out.2.1, HF.out.2.2]; rfl, below_setRow HB3.out (by omega) _⟩
      · refine (HEYp hc _).mono ?_
        intro e w3 hw3
        obtain ⟨g, he3, hg3, hk3, hb3⟩ := hw3
        subst he3
        have d2 : Blk w3 (w.heap.size + 1 + 1) 60 (va 256 (iv .u8 (lfF L p))) := HS.out.2.1.below hb3 HS.out.2.1.lt
        have HB3 : Hid (Below w.heap.size w w3 ∧ Blk w3 (w.heap.size + 1) 60 (va 256 (iv .u8 fun _ => 0)) ∧ Blk w3 (w.heap.size + 1 + 1) 60 (va 256 (iv .u8 (lfF L p)))) := ⟨HS.out.2.2.trans (hb3.mono HS.out.2.2.size), HS.out.1.below hb3 HS.out.1.lt, d2⟩
        have hcv := IsB.all (c := 64) hk3 w3 (Below.refl _ _)
        have HLY : Hid (∀ w : World, Calls Try.prog 35 #[.agg (va 256 (iv .u8 (lfF L p))), .int .i64 ((p : Int) * 64), .string (strN (inB (L p)) 64)] w fun e w' => e = .returned (.tuple #[.agg (va 256 (iv .u8 (lfF L (p + 1)))), .int .i64 0]) ∧ Below w.heap.size w w') := fun w => by
          have hz : (strN (inB (L p)) 64).size = 64 := strN_size _ _
          have := lay_fit (lfF L p) (p * 64) (strN (inB (L p)) 64) (by rw [hz]; omega) w
          rw [hz] at this
          unfold bkV at this
          rw [va_congr (f := iv .u8 (putAt (lfF L p) (p * 64) 64 (tbyte (strN (inB (L p)) 64)))) (g := iv .u8 (lfF L (p + 1))) fun i _ => by unfold iv; rw [HE1.out i]] at this
          rw [show ((p * 64 : Nat) : Int) = (p : Int) * 64 by omega] at this
          exact this
        have HOK2 : Hid (∀ q, q < p + 1 → chk (L q) = true) := fun q hq => by
          by_cases e : q = p
          · subst e; exact hc
          · exact HOK.out q (by omega)
        clear hb3 HS HBDp HENp HEYp hk3 HE1 HOK
        generalize strN (inB (L p)) 64 = tx at *
        have pm : (p : Int) * 64 ≤ 256 := by omega
        go_wp2_with (first
          | (refine wpList_load_row (by rfl) 60 _ (by rfl) (w.heap.size + 1 + 1) (by rfl) 60 (va 256 (iv .u8 (lfF L p))) (0, 0) _ (by exact d2) Try.underlying60 (by rfl) (sizeBk.trans (by rw [va_size])) ?_; simp only [Act.put, List.setIfInBounds_toArray, List.set_cons_zero, List.set_cons_succ])
          | fail)
        refine (HLY.out _).mono ?_
        intro e w4 hw4
        obtain ⟨he4, hb4⟩ := hw4
        subst he4
        have f2 : Blk w4 (w.heap.size + 1 + 1) 60 (va 256 (iv .u8 (lfF L p))) := HB3.out.2.2.below hb4 HB3.out.2.2.lt
        have HB4 : Hid (Below w.heap.size w w4 ∧ Blk w4 (w.heap.size + 1) 60 (va 256 (iv .u8 fun _ => 0))) := ⟨HB3.out.1.trans (hb4.mono HB3.out.1.size), HB3.out.2.1.below hb4 HB3.out.2.1.lt⟩
        clear hb4 HB3 HLY d2 hcv
        go_wp2_with (first
          | (refine wpList_store_row (by rfl) 60 _ _ (by rfl) (w.heap.size + 1 + 1) (va 256 (iv .u8 (lfF L (p + 1)))) (by rfl) (by rfl) 60 _ (by exact f2) (sizeBk.trans (by rw [va_size])) (by simp only [va_size]) (iv_one _ _ _) ?_; simp only [Act.put, List.setIfInBounds_toArray, List.set_cons_zero, List.set_cons_succ])
          | fail)
        go_roundw
        case rel => exact ⟨p + 1, by omega, by simp, HOK2.out, HB4.out.2.other _ (by omega), f2.set _, below_setRow HB4.out.1 (by omega) _⟩
        case measure => simp [intOf]; omega
    · have e : p = 4 := by omega
      subst e
      obtain ⟨e1, e2, e3⟩ := HGD.out hok
      have HF : Hid (OB = lfF L 4 ∧ OA = 0 ∧ OE = 0) := ⟨e1, e2, e3⟩
      have HB4 : Hid (Below w.heap.size w wr) := hb
      clear e1 e2 e3 HEN HEY HBD HGD hok hb
      go_wp2_with (first
        | (refine wpList_load_row (by rfl) 60 _ (by rfl) (w.heap.size + 1 + 1) (by rfl) 60 (va 256 (iv .u8 (lfF L 4))) (0, 0) _ (by exact c2) Try.underlying60 (by rfl) (sizeBk.trans (by rw [va_size])) ?_; simp only [Act.put, List.setIfInBounds_toArray, List.set_cons_zero, List.set_cons_succ])
        | (refine wpList_store_row (by rfl) 60 _ _ (by rfl) (w.heap.size + 1) (va 256 (iv .u8 (lfF L 4))) (by rfl) (by rfl) 60 _ (by exact c1) (sizeBk.trans (by rw [va_size])) (by simp only [va_size]) (iv_one _ _ _) ?_; simp only [Act.put, List.setIfInBounds_toArray, List.set_cons_zero, List.set_cons_succ])
        | fail)
      try simp only [Exit.inBlock, Exit.then]
      refine bodyPost_ret (res_row3 Try.results21 _ _ (w.heap.size + 1) 60 (va 256 (iv .u8 (lfF L 4))) (0, 0) _ rfl (c1.set _) Try.underlying60 rfl (sizeBk.trans (by rw [va_size]))) rfl ?_
      exact ⟨by rw [HF.out.1, HF.out.2.1, HF.out.2.2]; rfl, below_setRow HB4.out (by omega) _⟩
end Go.Proofs.Ytpoaipoadokggaa

namespace Go.Proofs.Ytpoaipoadokggaa
set_option maxRecDepth 20000
open Go Go.RowKit
set_option linter.unusedVariables false
set_option linter.unusedSimpArgs false
/-- the bytes of a leaf's place -/
def pcB (f : Nat → Nat) (p : Nat) : ByteArray := strN (fun j => f (p * 64 + j)) 64
def pcA (f : Nat → Nat) : Nat → Bool := fun p => decOk (pcB f p)
/-- what FromLeaf takes -/
def frL (f : Nat → Nat) : Nat → Ino := if bdF (pcA f) = 4 then fun p => decV (pcB f p) else fun _ => in0
def upL (f : Nat → Nat) (m : Nat) : Nat → Ino := fun p => if p < m then decV (pcB f p) else in0
theorem upL_step (f : Nat → Nat) (m : Nat) : foSet (upL f m) m (decV (pcB f m)) = upL f (m + 1) := by
  funext j
  unfold foSet upL
  by_cases h : j = m
  · subst h
    rw [if_pos rfl, if_pos (by omega)]
  · rw [if_neg h]
    by_cases h2 : j < m
    · rw [if_pos h2, if_pos (by omega)]
    · rw [if_neg h2, if_neg (by omega)]
theorem pcB_size (f : Nat → Nat) (p : Nat) : (pcB f p).size = 64 := strN_size _ _
set_option maxHeartbeats 4000000 in
theorem from14_any (f : Nat → Nat) (w : World) : Calls Try.prog 22 #[.agg (va 256 (iv .u8 f))] w fun e w' => e = .returned (.tuple #[.agg (foC (frL f)), .int .i64 (leA (pcA f)), .int .i64 (leE (pcA f))]) ∧ Below w.heap.size w w' := by
  have hz := zero_fo
  have hzi := zero_ino
  have H0 : Hid (Blk ((((w.alloc (.cells (va 256 (iv .u8 f)) 60)).alloc (.cells (foC fun _ => in0) 58)).alloc (.cells (foC fun _ => in0) 58))) w.heap.size 60 (va 256 (iv .u8 f)) ∧ Blk ((((w.alloc (.cells (va 256 (iv .u8 f)) 60)).alloc (.cells (foC fun _ => in0) 58)).alloc (.cells (foC fun _ => in0) 58))) (w.heap.size + 1) 58 (foC fun _ => in0) ∧ Blk ((((w.alloc (.cells (va 256 (iv .u8 f)) 60)).alloc (.cells (foC fun _ => in0) 58)).alloc (.cells (foC fun _ => in0) 58))) (w.heap.size + 1 + 1) 58 (foC fun _ => in0) ∧ Below w.heap.size w ((((w.alloc (.cells (va 256 (iv .u8 f)) 60)).alloc (.cells (foC fun _ => in0) 58)).alloc (.cells (foC fun _ => in0) 58)))) :=
    ⟨((Blk.new _ _ _).alloc _).alloc _, (Blk.new1 _ _ _ _).alloc _, by
      have := Blk.new ((w.alloc (.cells (va 256 (iv .u8 f)) 60)).alloc (.cells (foC fun _ => in0) 58)) 58 (foC fun _ => in0)
      rw [show ((w.alloc (.cells (va 256 (iv .u8 f)) 60)).alloc (.cells (foC fun _ => in0) 58)).heap.size = w.heap.size + 1 + 1 by simp] at this
      exact this, (below_new2 _ _ _).alloc (by simp; omega) _⟩
  have HBD : Hid (∀ p, p < 4 → (∀ q, q < p → decOk (pcB f q) = true) → decOk (pcB f p) = false → foC (frL f) = (foC fun _ => in0) ∧ leA (pcA f) = (p : Int) ∧ leE (pcA f) = 140) := fun p hp h1 h2 => by
    have hb := bd_bad (c := pcA f) hp h1 h2
    unfold frL leA leE
    rw [hb, if_neg (by omega), if_neg (by omega), if_neg (by omega)]
    exact ⟨rfl, rfl, rfl⟩
  have HGD : Hid ((∀ q, q < 4 → decOk (pcB f q) = true) → foC (frL f) = foC (upL f 4) ∧ leA (pcA f) = 0 ∧ leE (pcA f) = 0) := fun h1 => by
    have hb := bd_ok (c := pcA f) h1
    refine ⟨fo_congr fun i hi => ?_, ?_, ?_⟩
    · unfold frL upL
      rw [hb, if_pos rfl, if_pos hi]
    · unfold leA
      rw [hb]
      rfl
    · unfold leE
      rw [hb]
      rfl
  generalize foC (frL f) = OB at *
  generalize leA (pcA f) = OA at *
  generalize leE (pcA f) = OE at *
  go_enter Try.func22, Try.ntmps22
  go_wp2_with fail
  generalize ((((w.alloc (.cells (va 256 (iv .u8 f)) 60)).alloc (.cells (foC fun _ => in0) 58)).alloc (.cells (foC fun _ => in0) 58))) = w1 at *
  go_loopw [9] (fun i wr => Hid (∃ p : Nat, p ≤ 4 ∧ i = .int .i64 (p : Int) ∧ (∀ q, q < p → decOk (pcB f q) = true) ∧ Blk wr w.heap.size 60 (va 256 (iv .u8 f)) ∧ Blk wr (w.heap.size + 1) 58 (foC fun _ => in0) ∧ Blk wr (w.heap.size + 1 + 1) 58 (va 152 (foF (upL f p))) ∧ Below w.heap.size w wr)) (fun i _ => 4 - (intOf i).toNat)
  case atStart => exact ⟨0, by omega, rfl, fun q hq => by omega, H0.out.1, H0.out.2.1, H0.out.2.2.1, H0.out.2.2.2⟩
  case round =>
    obtain ⟨p, hp, rfl, hok, c0, c1, c2, hb⟩ := Hid.out hrel
    clear hrel H0
    by_cases h4 : p < 4
    · have p1 : (p : Int) < 4 := by omega
      have HDp : Hid (∀ c, Calls Try.prog 12 #[.slice (some ⟨w.heap.size, p * 64, none⟩) 64 c] wr fun e w' => e = .returned (.tuple #[.agg (inC (decV (pcB f p))), .int .i64 (decE (pcB f p))]) ∧ Below wr.heap.size wr w') := fun c => decode_any _ (pcB f p) (by rw [pcB_size]; decide) wr (IsB.own c0 (by omega))
      have HBDp := HBD.out p h4 hok
      have HOK : Hid (∀ q, q < p → decOk (pcB f q) = true) := hok
      have HB0 : Hid (Blk wr w.heap.size 60 (va 256 (iv .u8 f)) ∧ Blk wr (w.heap.size + 1) 58 (foC fun _ => in0) ∧ Blk wr (w.heap.size + 1 + 1) 58 (va 152 (foF (upL f p))) ∧ Below w.heap.size w wr) := ⟨c0, c1, c2, hb⟩
      have HEV : Hid (decE (pcB f p) = if decOk (pcB f p) = true then 0 else 140) := rfl
      have HU : Hid (va 152 (over (foF (upL f p)) (p * 38) (inC (decV (pcB f p))).toList) = va 152 (foF (upL f (p + 1)))) := by
        show _ = _
        rw [fo_over _ p _ h4, upL_step]
      clear c0 c1 c2 hb hok HBD HGD
      have a1 : (p : Int) * 64 ≤ 256 := by omega
      have a2 : (0 : Int) ≤ (p : Int) * 64 := by omega
      have a3 : ((p : Int) * 64).toNat = p * 64 := by omega
      go_wp2_with fail
      refine (HDp.out _).mono ?_
      intro e w2 hw2
      obtain ⟨he2, hb2⟩ := hw2
      subst he2
      have HB1 : Hid (Blk w2 w.heap.size 60 (va 256 (iv .u8 f)) ∧ Blk w2 (w.heap.size + 1) 58 (foC fun _ => in0) ∧ Blk w2 (w.heap.size + 1 + 1) 58 (va 152 (foF (upL f p))) ∧ Below w.heap.size w w2) := ⟨HB0.out.1.below hb2 HB0.out.1.lt, HB0.out.2.1.below hb2 HB0.out.2.1.lt, HB0.out.2.2.1.below hb2 HB0.out.2.2.1.lt, HB0.out.2.2.2.trans (hb2.mono HB0.out.2.2.2.size)⟩
      clear hb2 HB0 HDp
      generalize decE (pcB f p) = er at *
      have HRS : (inC (decV (pcB f p))).size = 38 := inC_size _
      have HRA : Hid ((inC (decV (pcB f p))).all (·.oneCell') = true) := inC_all _
      generalize inC (decV (pcB f p)) = rc at *
      have q1 : Blk (w2.alloc (.cells (inC in0) 31)) w2.heap.size 31 (inC in0) := Blk.new _ _ _
      have q2 : Blk ((w2.alloc (.cells (inC in0) 31)).setRow w2.heap.size rc) w2.heap.size 31 rc := q1.set _
      have d2 : Blk ((w2.alloc (.cells (inC in0) 31)).setRow w2.heap.size rc) (w.heap.size + 1 + 1) 58 (va 152 (foF (upL f p))) := (HB1.out.2.2.1.alloc _).other _ (by have := HB1.out.2.2.1.lt; omega)
      have d1 : Blk ((w2.alloc (.cells (inC in0) 31)).setRow w2.heap.size rc) (w.heap.size + 1) 58 (foC fun _ => in0) := (HB1.out.2.1.alloc _).other _ (by have := HB1.out.2.1.lt; omega)
      have HB2 : Hid (Blk ((w2.alloc (.cells (inC in0) 31)).setRow w2.heap.size rc) w.heap.size 60 (va 256 (iv .u8 f)) ∧ Below w.heap.size w ((w2.alloc (.cells (inC in0) 31)).setRow w2.heap.size rc)) := ⟨(HB1.out.1.alloc _).other _ (by have := HB1.out.1.lt; omega), below_setRow (HB1.out.2.2.2.alloc HB1.out.2.2.2.size _) HB1.out.2.2.2.size _⟩
      have hn2 : w.heap.size + 1 + 1 < w2.heap.size := HB1.out.2.2.1.lt
      clear HB1
      cases hc : decOk (pcB f p)
      · obtain ⟨e1, e2, e3⟩ := HBDp hc
        have HF : Hid (OB = (foC fun _ => in0) ∧ OA = (p : Int) ∧ OE = 140) := ⟨e1, e2, e3⟩
        have hr : er = 140 := by rw [HEV.out, hc]; rfl
        subst hr
        clear e1 e2 e3 HEV HBDp HU d2
        go_wp2_with (first
          | (refine wpList_store_row (by rfl) 31 _ _ (by rfl) (w2.heap.size) rc (by rfl) (by rfl) 31 (inC in0) (by exact q1) (sizeIno.trans (by rw [HRS])) (by simp only [inC_size, HRS]) (HRA.out) ?_; simp only [Act.put, List.setIfInBounds_toArray, List.set_cons_zero, List.set_cons_succ])
          | (refine wpList_store_row (by rfl) 58 _ _ (by rfl) (w.heap.size + 1) (foC fun _ => in0) (by rfl) (by rfl) 58 (foC fun _ => in0) (by exact d1) (sizeFo.trans (by rw [foC_size])) (by simp only [foC_size]) (foC_all _) ?_; simp only [Act.put, List.setIfInBounds_toArray, List.set_cons_zero, List.set_cons_succ])
          | fail)
        try simp only [Exit.inBlock, Exit.then]
        refine bodyPost_ret (res_row3 Try.results22 _ _ (w.heap.size + 1) 58 (foC fun _ => in0) (0, 0) _ rfl (d1.set _) Try.underlying58 rfl (sizeFo.trans (by rw [foC_size]))) rfl ?_
        exact ⟨by rw [HF.out.1, HF.out.2.1, HF.out.2.2]; rfl, below_setRow HB2.out.2 (by omega) _⟩
      · have hr : er = 0 := by rw [HEV.out, hc]; rfl
        subst hr
        have HOK2 : Hid (∀ q, q < p + 1 → decOk (pcB f q) = true) := fun q hq => by
          by_cases e : q = p
          · subst e; exact hc
          · exact HOK.out q (by omega)
        clear HEV HBDp HOK
        go_wp2_with (first
          | (refine wpList_store_row (by rfl) 31 _ _ (by rfl) (w2.heap.size) rc (by rfl) (by rfl) 31 (inC in0) (by exact q1) (sizeIno.trans (by rw [HRS])) (by simp only [inC_size, HRS]) (HRA.out) ?_; simp only [Act.put, List.setIfInBounds_toArray, List.set_cons_zero, List.set_cons_succ])
          | (refine wpList_load_row (by rfl) 31 _ (by rfl) (w2.heap.size) (by rfl) 31 rc (0, 0) _ (by exact q2) Try.underlying31 (by rfl) (sizeIno.trans (by rw [HRS])) ?_; simp only [Act.put, List.setIfInBounds_toArray, List.set_cons_zero, List.set_cons_succ])
          | (refine wpList_store_mid (by rfl) 31 _ _ (by rfl) (w.heap.size + 1 + 1) (p * 38) rc (by rfl) (by rfl) (by exact d2.there (p * 38) _ (by rw [HRS, va_size]; omega)) (sizeIno.trans (by rw [HRS])) (HRA.out) ?_; simp only [Act.put, List.setIfInBounds_toArray, List.set_cons_zero, List.set_cons_succ])
          | fail)
        go_roundw
        case rel =>
          refine ⟨p + 1, by omega, by simp, HOK2.out, HB2.out.1.cells_other (by omega) _ _ _, d1.cells_other (by omega) _ _ _, ?_, below_setCells (by omega) _ _ _ HB2.out.2⟩
          rw [← HU.out]
          exact d2.cells_put _ _ _
        case measure => simp [intOf]; omega
    · have e : p = 4 := by omega
      subst e
      obtain ⟨e1, e2, e3⟩ := HGD.out hok
      have HF : Hid (OB = foC (upL f 4) ∧ OA = 0 ∧ OE = 0) := ⟨e1, e2, e3⟩
      have HB4 : Hid (Below w.heap.size w wr) := hb
      have c2' : Blk wr (w.heap.size + 1 + 1) 58 (foC (upL f 4)) := c2
      clear e1 e2 e3 HBD HGD hok hb c2
      go_wp2_with (first
        | (refine wpList_load_row (by rfl) 58 _ (by rfl) (w.heap.size + 1 + 1) (by rfl) 58 (foC (upL f 4)) (0, 0) _ (by exact c2') Try.underlying58 (by rfl) (sizeFo.trans (by rw [foC_size])) ?_; simp only [Act.put, List.setIfInBounds_toArray, List.set_cons_zero, List.set_cons_succ])
        | (refine wpList_store_row (by rfl) 58 _ _ (by rfl) (w.heap.size + 1) (foC (upL f 4)) (by rfl) (by rfl) 58 (foC fun _ => in0) (by exact c1) (sizeFo.trans (by rw [foC_size])) (by simp only [foC_size]) (foC_all _) ?_; simp only [Act.put, List.setIfInBounds_toArray, List.set_cons_zero, List.set_cons_succ])
        | fail)
      try simp only [Exit.inBlock, Exit.then]
      refine bodyPost_ret (res_row3 Try.results22 _ _ (w.heap.size + 1) 58 (foC (upL f 4)) (0, 0) _ rfl (c1.set _) Try.underlying58 rfl (sizeFo.trans (by rw [foC_size]))) rfl ?_
      exact ⟨by rw [HF.out.1, HF.out.2.1, HF.out.2.2]; rfl, below_setRow HB4.out (by omega) _⟩
end Go.Proofs.Ytpoaipoadokggaa
