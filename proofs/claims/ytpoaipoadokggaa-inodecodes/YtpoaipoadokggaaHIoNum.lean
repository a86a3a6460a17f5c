/- Numbers in bytes: the document's number and value. -/
import Derived.Test.YtpoaipoadokggaaHIoEnc
import Derived.Handy
import Derived.Lib.Strings
import Derived.Test.YtpoaipoadokggaaHSegsS
import Derived.Test.YtpoaipoadokggaaHIoTake
import Derived.Lib.ConvBytes

namespace Go.Proofs.Ytpoaipoadokggaa
set_option maxRecDepth 20000
open Go Go.RowKit
set_option linter.unusedVariables false
set_option linter.unusedSimpArgs false
/-- a size as an int; nought where there is none -/
def szI (n : Nat) : Nat := if n ≤ 9223372036854775807 then n else 0
/-- the reference of a text, or none -/
def tkR (s : ByteArray) (a : Nat) : Rf := if a + 36 ≤ s.size ∧ rOk (decR s a) = true then decR s a else rf0
/-- what the bytes say -/
def prt (s : ByteArray) : Ino := ⟨(tk2 s 0 : Nat), (tk2 s 2 : Nat), (szI (tk8 s 8) : Nat), tk8 s 16, (tk2 s 4 : Nat), tkR s 24⟩
theorem tk2_lt (s : ByteArray) (a : Nat) : tk2 s a < 65536 := by
  unfold tk2
  split
  · exact at2_lt s a
  · decide
theorem tk8_lt (s : ByteArray) (a : Nat) : tk8 s a < 18446744073709551616 := by
  unfold tk8
  split
  · exact at8_lt s a
  · decide
theorem szI_lt (n : Nat) : szI n ≤ 9223372036854775807 := by
  unfold szI
  split
  · assumption
  · decide
theorem prt_w (s : ByteArray) : InW (prt s) := by
  have h1 := tk2_lt s 0
  have h2 := tk2_lt s 2
  have h3 := tk2_lt s 4
  have h4 := szI_lt (tk8 s 8)
  refine ⟨by show _ ∧ _; unfold prt; constructor <;> simp <;> omega, by unfold prt; constructor <;> simp <;> omega, by unfold prt; constructor <;> simp <;> omega, tk8_lt s 16, by unfold prt; constructor <;> simp <;> omega, ?_, ?_⟩
  · show (tkR s 24).1 < _
    unfold tkR
    split
    · exact at4_lt s 24
    · decide
  · show okD (tkR s 24).2
    unfold tkR
    split
    · exact decR_ok s 24
    · exact okD_zero
theorem decodeR_tk (s : ByteArray) (a : Nat) (hs : s.size ≤ maxLen) (ha : a ≤ 64) (w : World) : Calls Try.prog 41 #[.string s, .int .i64 (a : Int)] w fun e w' => (∃ b, e = .returned (.tuple #[.agg (rfC (tkR s a)), .bool b])) ∧ Below w.heap.size w w' := by
  unfold tkR
  by_cases h : a + 36 ≤ s.size
  · refine (decodeR_good s a hs h w).mono fun e w' ⟨h1, h2⟩ => ⟨⟨rOk (decR s a), ?_⟩, h2⟩
    rw [h1]
    cases hr : rOk (decR s a)
    · simp
    · simp [h]
  · refine (decodeR_bad s a (by omega) hs (Or.inr (by omega)) w).mono fun e w' ⟨h1, h2⟩ => ⟨⟨false, ?_⟩, h2⟩
    rw [h1, if_neg (by omega)]
set_option maxHeartbeats 4000000 in
theorem int_any (n : Nat) (hn : n < 18446744073709551616) (w : World) : Calls Try.prog 40 #[.int .u64 (n : Int)] w fun e w' => (∃ b, e = .returned (.tuple #[.int .i64 (szI n : Nat), .int .i64 b])) ∧ w' = w := by
  unfold szI
  by_cases h : n ≤ 9223372036854775807
  · have h1 : ¬ ((9223372036854775807 : Int) < (n : Int)) := by omega
    rw [if_pos h]
    have hw : IntKind.i64.wrap (n : Int) = (n : Int) := wrapI64_id _ (by omega) (by omega)
    go_enter Try.func40, Try.ntmps40
    go_wp2_with fail
    go_ret2
    exact ⟨⟨0, rfl⟩, rfl⟩
  · have h1 : (9223372036854775807 : Int) < (n : Int) := by omega
    rw [if_neg h]
    go_enter Try.func40, Try.ntmps40
    go_wp2_with fail
    go_ret2
    exact ⟨⟨10, rfl⟩, rfl⟩
theorem wpList_build2 {P : Program} {ops : Array Oper} {rest : List Oper} {o : Oper} {a : Act} {w : World} {Q : Exit → Act → World → Prop} (hg : o.guard = none) (t : TypeId) (x y : Operand) (ho : o.op = .build t #[(0, x), (1, y)]) (vx vy : Value) (hx : a.eval x = vx) (hy : a.eval y = vy)
    (cells : Array Value) (hf : P.built t [(0, vx), (1, vy)] = some cells) (h : wpList P ops Q rest (a.put o.dst (.agg cells)) w) : wpList P ops Q (o :: rest) a w := by
  refine wpList_buildTo hg t _ ho o.dst rfl cells ?_ h
  have e : (Array.map (fun (x : Nat × Operand) => match x with | (i, x) => (i, a.eval x)) #[(0, x), (1, y)]).toList = [(0, vx), (1, vy)] := by simp [hx, hy]
  rw [e]
  exact hf
theorem wpList_build5 {P : Program} {ops : Array Oper} {rest : List Oper} {o : Oper} {a : Act} {w : World} {Q : Exit → Act → World → Prop} (hg : o.guard = none) (t : TypeId) (x0 x1 x2 x3 x4 : Operand) (ho : o.op = .build t #[(0, x0), (1, x1), (2, x2), (3, x3), (4, x4)]) (v0 v1 v2 v3 v4 : Value) (h0 : a.eval x0 = v0) (h1 : a.eval x1 = v1) (h2 : a.eval x2 = v2) (h3 : a.eval x3 = v3) (h4 : a.eval x4 = v4)
    (cells : Array Value) (hf : P.built t [(0, v0), (1, v1), (2, v2), (3, v3), (4, v4)] = some cells) (h : wpList P ops Q rest (a.put o.dst (.agg cells)) w) : wpList P ops Q (o :: rest) a w := by
  refine wpList_buildTo hg t _ ho o.dst rfl cells ?_ h
  have e : (Array.map (fun (x : Nat × Operand) => match x with | (i, x) => (i, a.eval x)) #[(0, x0), (1, x1), (2, x2), (3, x3), (4, x4)]).toList = [(0, v0), (1, v1), (2, v2), (3, v3), (4, v4)] := by simp [h0, h1, h2, h3, h4]
  rw [e]
  exact hf
theorem built_tree (h : Int) (r : Rf) : Try.prog.built 29 [(0, .int .i64 h), (1, .agg (rfC r))] = some (tiC h r) := by kernel_rfl
theorem built_ino (x : Ino) : Try.prog.built 31 [(0, .int .i64 x.k), (1, .int .i64 x.l), (2, .int .i64 x.s), (3, .int .u64 ((x.t : Nat) : Int)), (4, .agg (tiC x.h x.r))] = some (inC x) := by kernel_rfl
set_option maxHeartbeats 1000000 in
theorem parts_any (s : ByteArray) (hs : s.size ≤ maxLen) (w : World) : Calls Try.prog 32 #[.string s] w fun e w' => e = .returned (.agg (inC (prt s))) ∧ Below w.heap.size w w' := by
  have hz := zero_ino
  have hzr := zero_ref
  have H0 : Hid (∀ w : World, Calls Try.prog 38 #[.string s, .int .i64 0] w fun e w' => (∃ b, e = .returned (.tuple #[.int .u16 (tk2 s 0 : Int), .bool b])) ∧ Below w.heap.size w w') := take16_tk s 0 hs
  have H2 : Hid (∀ w : World, Calls Try.prog 38 #[.string s, .int .i64 2] w fun e w' => (∃ b, e = .returned (.tuple #[.int .u16 (tk2 s 2 : Int), .bool b])) ∧ Below w.heap.size w w') := take16_tk s 2 hs
  have H4 : Hid (∀ w : World, Calls Try.prog 38 #[.string s, .int .i64 4] w fun e w' => (∃ b, e = .returned (.tuple #[.int .u16 (tk2 s 4 : Int), .bool b])) ∧ Below w.heap.size w w') := take16_tk s 4 hs
  have H8 : Hid (∀ w : World, Calls Try.prog 39 #[.string s, .int .i64 8] w fun e w' => (∃ b, e = .returned (.tuple #[.int .u64 (tk8 s 8 : Int), .bool b])) ∧ Below w.heap.size w w') := take64_tk s 8 hs
  have H16 : Hid (∀ w : World, Calls Try.prog 39 #[.string s, .int .i64 16] w fun e w' => (∃ b, e = .returned (.tuple #[.int .u64 (tk8 s 16 : Int), .bool b])) ∧ Below w.heap.size w w') := take64_tk s 16 hs
  have HR : Hid (∀ w : World, Calls Try.prog 41 #[.string s, .int .i64 24] w fun e w' => (∃ b, e = .returned (.tuple #[.agg (rfC (tkR s 24)), .bool b])) ∧ Below w.heap.size w w') := decodeR_tk s 24 hs (by decide)
  have HI : Hid (∀ w : World, Calls Try.prog 40 #[.int .u64 (tk8 s 8 : Int)] w fun e w' => (∃ b, e = .returned (.tuple #[.int .i64 (szI (tk8 s 8) : Nat), .int .i64 b])) ∧ w' = w) := int_any _ (tk8_lt s 8)
  have HP : Hid (prt s = ⟨(tk2 s 0 : Nat), (tk2 s 2 : Nat), (szI (tk8 s 8) : Nat), tk8 s 16, (tk2 s 4 : Nat), tkR s 24⟩) := rfl
  have k0 := tk2_lt s 0
  have k2 := tk2_lt s 2
  have k4 := tk2_lt s 4
  generalize szI (tk8 s 8) = sz at *
  generalize tk2 s 0 = n0 at *
  generalize tk2 s 2 = n2 at *
  generalize tk2 s 4 = n4 at *
  generalize tk8 s 8 = n8 at *
  generalize tk8 s 16 = n16 at *
  generalize tkR s 24 = rr at *
  have v0 : IntKind.i64.wrap (n0 : Int) = (n0 : Int) := wrapI64_id _ (by omega) (by omega)
  have v2 : IntKind.i64.wrap (n2 : Int) = (n2 : Int) := wrapI64_id _ (by omega) (by omega)
  have v4 : IntKind.i64.wrap (n4 : Int) = (n4 : Int) := wrapI64_id _ (by omega) (by omega)
  have HB0 : Hid (Below w.heap.size w (w.alloc (.cells (inC in0) 31)) ∧ Blk (w.alloc (.cells (inC in0) 31)) w.heap.size 31 (inC in0)) := ⟨below_new1 _ _, Blk.new _ _ _⟩
  generalize prt s = X at *
  go_enter Try.func32, Try.ntmps32
  go_wp2_with fail
  refine (H0.out _).mono ?_
  intro e w1 hw1
  obtain ⟨⟨b1, he1⟩, hb1⟩ := hw1
  subst he1
  have HB1 : Hid (Below w.heap.size w w1 ∧ Blk w1 w.heap.size 31 (inC in0)) := ⟨HB0.out.1.trans (hb1.mono HB0.out.1.size), HB0.out.2.below hb1 HB0.out.2.lt⟩
  clear hb1 HB0
  go_wp2_with fail
  refine (H2.out _).mono ?_
  intro e w2 hw2
  obtain ⟨⟨b2, he2⟩, hb2⟩ := hw2
  subst he2
  have HB2 : Hid (Below w.heap.size w w2 ∧ Blk w2 w.heap.size 31 (inC in0)) := ⟨HB1.out.1.trans (hb2.mono HB1.out.1.size), HB1.out.2.below hb2 HB1.out.2.lt⟩
  clear hb2 HB1
  go_wp2_with fail
  refine (H4.out _).mono ?_
  intro e w3 hw3
  obtain ⟨⟨b3, he3⟩, hb3⟩ := hw3
  subst he3
  have HB3 : Hid (Below w.heap.size w w3 ∧ Blk w3 w.heap.size 31 (inC in0)) := ⟨HB2.out.1.trans (hb3.mono HB2.out.1.size), HB2.out.2.below hb3 HB2.out.2.lt⟩
  clear hb3 HB2
  go_wp2_with fail
  refine (H8.out _).mono ?_
  intro e w4 hw4
  obtain ⟨⟨b4, he4⟩, hb4⟩ := hw4
  subst he4
  have HB4 : Hid (Below w.heap.size w w4 ∧ Blk w4 w.heap.size 31 (inC in0)) := ⟨HB3.out.1.trans (hb4.mono HB3.out.1.size), HB3.out.2.below hb4 HB3.out.2.lt⟩
  clear hb4 HB3
  go_wp2_with fail
  refine (HI.out _).mono ?_
  intro e w5 hw5
  obtain ⟨⟨b5, he5⟩, hb5⟩ := hw5
  subst he5 hb5
  go_wp2_with fail
  refine (H16.out _).mono ?_
  intro e w6 hw6
  obtain ⟨⟨b6, he6⟩, hb6⟩ := hw6
  subst he6
  have HB6 : Hid (Below w.heap.size w w6 ∧ Blk w6 w.heap.size 31 (inC in0)) := ⟨HB4.out.1.trans (hb6.mono HB4.out.1.size), HB4.out.2.below hb6 HB4.out.2.lt⟩
  clear hb6 HB4
  go_wp2_with fail
  refine (HR.out _).mono ?_
  intro e w7 hw7
  obtain ⟨⟨b7, he7⟩, hb7⟩ := hw7
  subst he7
  have HB7 : Hid (Below w.heap.size w w7 ∧ Blk w7 w.heap.size 31 (inC in0)) := ⟨HB6.out.1.trans (hb7.mono HB6.out.1.size), HB6.out.2.below hb7 HB6.out.2.lt⟩
  clear hb7 HB6 H0 H2 H4 H8 H16 HI HR
  have q7 : Blk (w7.alloc (.cells (rfC rf0) 27)) w7.heap.size 27 (rfC rf0) := Blk.new _ _ _
  have q8 : Blk ((w7.alloc (.cells (rfC rf0) 27)).setRow w7.heap.size (rfC rr)) w7.heap.size 27 (rfC rr) := q7.set _
  have q9 : Blk ((w7.alloc (.cells (rfC rf0) 27)).setRow w7.heap.size (rfC rr)) w.heap.size 31 (inC in0) := (HB7.out.2.alloc _).other _ (by have := HB7.out.2.lt; omega)
  have HB8 : Hid (Below w.heap.size w ((w7.alloc (.cells (rfC rf0) 27)).setRow w7.heap.size (rfC rr))) := below_setRow (HB7.out.1.alloc HB7.out.1.size _) HB7.out.1.size _
  have hbt := built_tree (n4 : Int) rr
  have hbi := built_ino X
  rw [HP.out] at hbi
  simp only at hbi
  rw [← HP.out] at hbi
  go_wp2_with (first
    | (refine wpList_store_row (by rfl) 27 _ _ (by rfl) (w7.heap.size) (rfC rr) (by rfl) (by rfl) 27 (rfC rf0) (by exact q7) (slSizeRef.trans (by rw [rfC_size])) (by simp only [rfC_size]) (rfC_all _) ?_; simp only [Act.put, List.setIfInBounds_toArray, List.set_cons_zero, List.set_cons_succ])
    | (refine wpList_load_rowg (by rfl) 27 _ (by rfl) (w7.heap.size) (by rfl) 27 (rfC rr) (0, 0) _ (by exact q8) Try.underlying27 (by rfl) (slSizeRef.trans (by rw [rfC_size])) ?_; simp only [Act.put, List.setIfInBounds_toArray, List.set_cons_zero, List.set_cons_succ])
    | (refine wpList_build2 (by rfl) 29 _ _ (by rfl) (.int .i64 (n4 : Int)) (.agg (rfC rr)) (by rfl) (by rfl) (tiC (n4 : Int) rr) hbt ?_; simp only [Act.put, List.setIfInBounds_toArray, List.set_cons_zero, List.set_cons_succ])
    | (refine wpList_build5 (by rfl) 31 _ _ _ _ _ (by rfl) (.int .i64 (n0 : Int)) (.int .i64 (n2 : Int)) (.int .i64 (sz : Int)) (.int .u64 (n16 : Int)) (.agg (tiC (n4 : Int) rr)) (by rfl) (by rfl) (by rfl) (by rfl) (by rfl) (inC X) hbi ?_; simp only [Act.put, List.setIfInBounds_toArray, List.set_cons_zero, List.set_cons_succ])
    | (refine wpList_store_row (by rfl) 31 _ _ (by rfl) (w.heap.size) (inC X) (by rfl) (by rfl) 31 (inC in0) (by exact q9) (sizeIno.trans (by rw [inC_size])) (by simp only [inC_size]) (inC_all _) ?_; simp only [Act.put, List.setIfInBounds_toArray, List.set_cons_zero, List.set_cons_succ])
    | fail)
  try simp only [Exit.inBlock, Exit.then]
  refine bodyPost_ret (results_cell_row Try.results32 _ _ (w.heap.size) 31 (inC X) (0, 0) _ rfl (q9.set _) Try.underlying31 rfl (sizeIno.trans (by rw [inC_size]))) rfl ?_
  exact ⟨rfl, below_setRow HB8.out (Nat.le_refl _) _⟩
end Go.Proofs.Ytpoaipoadokggaa

namespace Go.Proofs.Ytpoaipoadokggaa
set_option maxRecDepth 20000
open Go Go.RowKit
set_option linter.unusedVariables false
set_option linter.unusedSimpArgs false
/-- a slice of bytes that says a text -/
def IsB (w : World) (v : Value) (s : ByteArray) : Prop := ∀ W, Below w.heap.size w W → (convert 32 9 v).run Try.prog W = .ok (.string s) W
theorem IsB.below {w w' : World} {v : Value} {s : ByteArray} (h : IsB w v s) (hb : Below w.heap.size w w') : IsB w' v s := fun W hW => h W (hb.trans (hW.mono hb.size))
theorem IsB.own {w : World} {g T o n c N : Nat} {f : Nat → Nat} (h : Blk w g T (va N (iv .u8 f))) (hn : o + n ≤ N) : IsB w (.slice (some ⟨g, o, none⟩) n c) (strN (fun j => f (o + j)) n) := fun W hW => by
  exact run_bytes_text (P := Try.prog) W 32 5 9 Try.underlying32 Try.underlying5 Try.underlying9 (h.below hW h.lt) o n c hn
theorem IsB.all {w : World} {g T c N : Nat} {f : Nat → Nat} (h : Blk w g T (va N (iv .u8 f))) : IsB w (.slice (some ⟨g, 0, none⟩) N c) (strN f N) := by
  have := IsB.own (c := c) h (o := 0) (n := N) (by omega)
  rwa [show (fun j => f (0 + j)) = f by funext j; rw [Nat.zero_add]] at this
theorem text_ne {T s : ByteArray} (h : ¬ T = s) : (T.toList == s.toList) = false := by
  rw [beq_eq_false_iff_ne]
  intro e
  rw [Lib.toList_data, Lib.toList_data] at e
  refine h ?_
  cases T
  cases s
  congr 1
  exact Array.toList_inj.1 e
def decOk (s : ByteArray) : Bool := chk (prt s) && decide (strN (inB (prt s)) 64 = s)
def decV (s : ByteArray) : Ino := if decOk s = true then prt s else in0
def decE (s : ByteArray) : Int := if decOk s = true then 0 else 140
set_option maxHeartbeats 2000000 in
theorem decode_any (v : Value) (s : ByteArray) (hs : s.size ≤ maxLen) (w : World) (hv : IsB w v s) : Calls Try.prog 12 #[v] w fun e w' => e = .returned (.tuple #[.agg (inC (decV s)), .int .i64 (decE s)]) ∧ Below w.heap.size w w' := by
  have hz := zero_ino
  have HB0 : Hid (Below w.heap.size w (w.alloc (.cells (inC in0) 31)) ∧ Blk (w.alloc (.cells (inC in0) 31)) w.heap.size 31 (inC in0)) := ⟨below_new1 _ _, Blk.new _ _ _⟩
  have hcv := hv _ HB0.out.1
  have HP : Hid (∀ w : World, Calls Try.prog 32 #[.string s] w fun e w' => e = .returned (.agg (inC (prt s))) ∧ Below w.heap.size w w') := parts_any s hs
  have HV : Hid (decV s = if decOk s = true then prt s else in0) := rfl
  have HE : Hid (decE s = if decOk s = true then 0 else 140) := rfl
  have HK : Hid (decOk s = (chk (prt s) && decide (strN (inB (prt s)) 64 = s))) := rfl
  have hw := prt_w s
  generalize decV s = V at *
  generalize decE s = E at *
  generalize decOk s = K at *
  generalize prt s = X at *
  clear hv
  go_enter Try.func12, Try.ntmps12
  go_wp2_with fail
  generalize (w.alloc (.cells (inC in0) 31)) = w0 at *
  refine (HP.out _).mono ?_
  intro e w1 hw1
  obtain ⟨he1, hb1⟩ := hw1
  subst he1
  have q1 : Blk (w1.alloc (.cells (inC in0) 31)) w1.heap.size 31 (inC in0) := Blk.new _ _ _
  have q2 : Blk ((w1.alloc (.cells (inC in0) 31)).setRow w1.heap.size (inC X)) w1.heap.size 31 (inC X) := q1.set _
  have HB1 : Hid (Below w.heap.size w w1 ∧ Blk w1 w.heap.size 31 (inC in0)) := ⟨HB0.out.1.trans (hb1.mono HB0.out.1.size), HB0.out.2.below hb1 HB0.out.2.lt⟩
  have HB2 : Hid (Below w.heap.size w ((w1.alloc (.cells (inC in0) 31)).setRow w1.heap.size (inC X)) ∧ Blk ((w1.alloc (.cells (inC in0) 31)).setRow w1.heap.size (inC X)) w.heap.size 31 (inC in0)) :=
    ⟨below_setRow (HB1.out.1.alloc HB1.out.1.size _) HB1.out.1.size _, (HB1.out.2.alloc _).other _ (by have := HB1.out.2.lt; omega)⟩
  have hne : w.heap.size < w1.heap.size := HB1.out.2.lt
  clear hb1 HB0 HB1 HP hcv
  go_wp2_with (first
    | (refine wpList_store_row (by rfl) 31 _ _ (by rfl) (w1.heap.size) (inC X) (by rfl) (by rfl) 31 (inC in0) (by exact q1) (sizeIno.trans (by rw [inC_size])) (by simp only [inC_size]) (inC_all _) ?_; simp only [Act.put, List.setIfInBounds_toArray, List.set_cons_zero, List.set_cons_succ])
    | (refine wpList_load_row (by rfl) 31 _ (by rfl) (w1.heap.size) (by rfl) 31 (inC X) (0, 0) _ (by exact q2) Try.underlying31 (by rfl) (sizeIno.trans (by rw [inC_size])) ?_; simp only [Act.put, List.setIfInBounds_toArray, List.set_cons_zero, List.set_cons_succ])
    | fail)
  clear q1
  generalize ((w1.alloc (.cells (inC in0) 31)).setRow w1.heap.size (inC X)) = w2 at *
  generalize w1.heap.size = gx at *
  cases hc : chk X
  · refine (encode_no X hw hc _).mono ?_
    intro e w3 hw3
    obtain ⟨he3, hb3⟩ := hw3
    subst he3
    have q3 : Blk w3 w.heap.size 31 (inC in0) := HB2.out.2.below hb3 HB2.out.2.lt
    have HB3 : Hid (Below w.heap.size w w3) := HB2.out.1.trans (hb3.mono HB2.out.1.size)
    have HF : Hid (V = in0 ∧ E = 140) := by
      have hk : K = false := by rw [HK.out, hc]; rfl
      exact ⟨by rw [HV.out, hk]; rfl, by rw [HE.out, hk]; rfl⟩
    clear hb3 HB2 q2 HV HE HK
    go_wp2_with (first
      | (refine wpList_store_row (by rfl) 31 _ _ (by rfl) (w.heap.size) (inC in0) (by rfl) (by rfl) 31 (inC in0) (by exact q3) (sizeIno.trans (by rw [inC_size])) (by simp only [inC_size]) (inC_all _) ?_; simp only [Act.put, List.setIfInBounds_toArray, List.set_cons_zero, List.set_cons_succ])
      | fail)
    try simp only [Exit.inBlock, Exit.then]
    refine bodyPost_ret (results_row2 Try.results12 _ _ (w.heap.size) 31 (inC in0) (0, 0) _ rfl (q3.set _) Try.underlying31 rfl (sizeIno.trans (by rw [inC_size]))) rfl ?_
    exact ⟨by rw [HF.out.1, HF.out.2]; rfl, below_setRow HB3.out (Nat.le_refl _) _⟩
  · refine (encode_ok X hw hc _).mono ?_
    intro e w3 hw3
    obtain ⟨g, he3, hg3, hk3, hb3⟩ := hw3
    subst he3
    have q3 : Blk w3 w.heap.size 31 (inC in0) := HB2.out.2.below hb3 HB2.out.2.lt
    have q4 : Blk w3 gx 31 (inC X) := q2.below hb3 q2.lt
    have HB3 : Hid (Below w.heap.size w w3) := HB2.out.1.trans (hb3.mono HB2.out.1.size)
    have hcv := IsB.all (c := 64) hk3 w3 (Below.refl _ _)
    have HK2 : Hid (K = decide (strN (inB X) 64 = s)) := by rw [HK.out, hc]; exact rfl
    clear hb3 HB2 q2 HK hk3
    generalize strN (inB X) 64 = T at *
    by_cases hT : T = s
    · have HF : Hid (V = X ∧ E = 0) := by
        have hk : K = true := by rw [HK2.out, decide_eq_true hT]
        exact ⟨by rw [HV.out, hk]; rfl, by rw [HE.out, hk]; rfl⟩
      clear HV HE HK2
      subst hT
      go_wp2_with (first
        | (refine wpList_load_row (by rfl) 31 _ (by rfl) gx (by rfl) 31 (inC X) (0, 0) _ (by exact q4) Try.underlying31 (by rfl) (sizeIno.trans (by rw [inC_size])) ?_; simp only [Act.put, List.setIfInBounds_toArray, List.set_cons_zero, List.set_cons_succ])
        | (refine wpList_store_row (by rfl) 31 _ _ (by rfl) (w.heap.size) (inC X) (by rfl) (by rfl) 31 (inC in0) (by exact q3) (sizeIno.trans (by rw [inC_size])) (by simp only [inC_size]) (inC_all _) ?_; simp only [Act.put, List.setIfInBounds_toArray, List.set_cons_zero, List.set_cons_succ])
        | fail)
      try simp only [Exit.inBlock, Exit.then]
      refine bodyPost_ret (results_row2 Try.results12 _ _ (w.heap.size) 31 (inC X) (0, 0) _ rfl (q3.set _) Try.underlying31 rfl (sizeIno.trans (by rw [inC_size]))) rfl ?_
      exact ⟨by rw [HF.out.1, HF.out.2]; rfl, below_setRow HB3.out (Nat.le_refl _) _⟩
    · have HF : Hid (V = in0 ∧ E = 140) := by
        have hk : K = false := by rw [HK2.out, decide_eq_false hT]
        exact ⟨by rw [HV.out, hk]; rfl, by rw [HE.out, hk]; rfl⟩
      have hTl := text_ne hT
      clear HV HE HK2
      go_wp2_with (first
        | (refine wpList_store_row (by rfl) 31 _ _ (by rfl) (w.heap.size) (inC in0) (by rfl) (by rfl) 31 (inC in0) (by exact q3) (sizeIno.trans (by rw [inC_size])) (by simp only [inC_size]) (inC_all _) ?_; simp only [Act.put, List.setIfInBounds_toArray, List.set_cons_zero, List.set_cons_succ])
        | fail)
      try simp only [Exit.inBlock, Exit.then]
      refine bodyPost_ret (results_row2 Try.results12 _ _ (w.heap.size) 31 (inC in0) (0, 0) _ rfl (q3.set _) Try.underlying31 rfl (sizeIno.trans (by rw [inC_size]))) rfl ?_
      exact ⟨by rw [HF.out.1, HF.out.2]; rfl, below_setRow HB3.out (Nat.le_refl _) _⟩
end Go.Proofs.Ytpoaipoadokggaa

namespace Go.Proofs.Ytpoaipoadokggaa
set_option maxRecDepth 20000
open Go Go.RowKit
set_option linter.unusedVariables false
set_option linter.unusedSimpArgs false
theorem inB_lt (x : Ino) (hx : okD x.r.2) (j : Nat) : inB x j < 256 := by
  have hd : ∀ a b, dig a b < 256 := fun a b => Nat.mod_lt _ (by decide)
  unfold inB
  split
  · exact hd _ _
  · split
    · exact hd _ _
    · split
      · exact hd _ _
      · split
        · decide
        · split
          · exact hd _ _
          · split
            · exact hd _ _
            · split
              · exact encR_lt x.r hx _ (by omega)
              · decide
end Go.Proofs.Ytpoaipoadokggaa

namespace Go.Proofs.Ytpoaipoadokggaa
set_option maxRecDepth 20000
open Go Go.RowKit
set_option linter.unusedVariables false
set_option linter.unusedSimpArgs false
theorem le2_dig (n : Nat) (h : n < 65536) : le2 (dig n 0) (dig n 1) = n := by
  unfold le2 dig
  simp only [Nat.pow_zero, Nat.pow_one, Nat.div_one]
  omega
theorem le4_dig (n : Nat) (h : n < 4294967296) : le4 (dig n 0) (dig n 1) (dig n 2) (dig n 3) = n := by
  unfold le4 dig
  simp only [Nat.pow_zero, Nat.pow_one, Nat.div_one, show (256 : Nat) ^ 2 = 65536 from rfl, show (256 : Nat) ^ 3 = 16777216 from rfl]
  omega
theorem le8_dig (n : Nat) (h : n < 18446744073709551616) : le8 (dig n 0) (dig n 1) (dig n 2) (dig n 3) (dig n 4) (dig n 5) (dig n 6) (dig n 7) = n := by
  unfold le8 dig
  simp only [Nat.pow_zero, Nat.pow_one, Nat.div_one, show (256 : Nat) ^ 2 = 65536 from rfl, show (256 : Nat) ^ 3 = 16777216 from rfl, show (256 : Nat) ^ 4 = 4294967296 from rfl, show (256 : Nat) ^ 5 = 1099511627776 from rfl, show (256 : Nat) ^ 6 = 281474976710656 from rfl, show (256 : Nat) ^ 7 = 72057594037927936 from rfl]
  omega
theorem enc_byte (x : Ino) (hx : okD x.r.2) (j : Nat) (hj : j < 64) : tbyte (strN (inB x) 64) j = inB x j := strN_at _ _ _ hj (inB_lt x hx j)
theorem enc_size (x : Ino) : (strN (inB x) 64).size = 64 := strN_size _ _
theorem enc_k (x : Ino) (hx : okD x.r.2) (h : 0 ≤ x.k ∧ x.k < 65536) : ((at2 (strN (inB x) 64) 0 : Nat) : Int) = x.k := by
  unfold at2
  rw [enc_byte x hx 0 (by decide), enc_byte x hx 1 (by decide), show inB x 0 = dig x.k.toNat 0 from rfl, show inB x 1 = dig x.k.toNat 1 from rfl, le2_dig _ (by omega)]
  omega
theorem enc_l (x : Ino) (hx : okD x.r.2) (h : 0 ≤ x.l ∧ x.l < 65536) : ((at2 (strN (inB x) 64) 2 : Nat) : Int) = x.l := by
  unfold at2
  rw [enc_byte x hx 2 (by decide), enc_byte x hx 3 (by decide), show inB x 2 = dig x.l.toNat 0 from rfl, show inB x 3 = dig x.l.toNat 1 from rfl, le2_dig _ (by omega)]
  omega
theorem enc_h (x : Ino) (hx : okD x.r.2) (h : 0 ≤ x.h ∧ x.h < 65536) : ((at2 (strN (inB x) 64) 4 : Nat) : Int) = x.h := by
  unfold at2
  rw [enc_byte x hx 4 (by decide), enc_byte x hx 5 (by decide), show inB x 4 = dig x.h.toNat 0 from rfl, show inB x 5 = dig x.h.toNat 1 from rfl, le2_dig _ (by omega)]
  omega
theorem enc_s (x : Ino) (hx : okD x.r.2) (h : 0 ≤ x.s ∧ x.s < 65536 * 65536) : ((at8 (strN (inB x) 64) 8 : Nat) : Int) = x.s := by
  unfold at8
  rw [enc_byte x hx 8 (by decide), enc_byte x hx (8 + 1) (by decide), enc_byte x hx (8 + 2) (by decide), enc_byte x hx (8 + 3) (by decide), enc_byte x hx (8 + 4) (by decide), enc_byte x hx (8 + 5) (by decide), enc_byte x hx (8 + 6) (by decide), enc_byte x hx (8 + 7) (by decide),
    show inB x 8 = dig x.s.toNat 0 from rfl, show inB x (8 + 1) = dig x.s.toNat 1 from rfl, show inB x (8 + 2) = dig x.s.toNat 2 from rfl, show inB x (8 + 3) = dig x.s.toNat 3 from rfl, show inB x (8 + 4) = dig x.s.toNat 4 from rfl, show inB x (8 + 5) = dig x.s.toNat 5 from rfl, show inB x (8 + 6) = dig x.s.toNat 6 from rfl, show inB x (8 + 7) = dig x.s.toNat 7 from rfl, le8_dig _ (by omega)]
  omega
theorem enc_t (x : Ino) (hx : okD x.r.2) (h : x.t < 18446744073709551616) : at8 (strN (inB x) 64) 16 = x.t := by
  unfold at8
  rw [enc_byte x hx 16 (by decide), enc_byte x hx (16 + 1) (by decide), enc_byte x hx (16 + 2) (by decide), enc_byte x hx (16 + 3) (by decide), enc_byte x hx (16 + 4) (by decide), enc_byte x hx (16 + 5) (by decide), enc_byte x hx (16 + 6) (by decide), enc_byte x hx (16 + 7) (by decide),
    show inB x 16 = dig x.t 0 from rfl, show inB x (16 + 1) = dig x.t 1 from rfl, show inB x (16 + 2) = dig x.t 2 from rfl, show inB x (16 + 3) = dig x.t 3 from rfl, show inB x (16 + 4) = dig x.t 4 from rfl, show inB x (16 + 5) = dig x.t 5 from rfl, show inB x (16 + 6) = dig x.t 6 from rfl, show inB x (16 + 7) = dig x.t 7 from rfl, le8_dig _ h]
theorem enc_r (x : Ino) (hx : okD x.r.2) (h : x.r.1 < 4294967296) : decR (strN (inB x) 64) 24 = x.r := by
  unfold decR
  have h1 : at4 (strN (inB x) 64) 24 = x.r.1 := by
    unfold at4
    rw [enc_byte x hx 24 (by decide), enc_byte x hx (24 + 1) (by decide), enc_byte x hx (24 + 2) (by decide), enc_byte x hx (24 + 3) (by decide),
      show inB x 24 = dig x.r.1 0 from rfl, show inB x (24 + 1) = dig x.r.1 1 from rfl, show inB x (24 + 2) = dig x.r.1 2 from rfl, show inB x (24 + 3) = dig x.r.1 3 from rfl, le4_dig _ h]
  have h2 : (sumD fun i => tbyte (strN (inB x) 64) (24 + 4 + i)) = x.r.2 := by
    refine dF_inj fun i hi => ?_
    rw [dF_sumD _ i hi, enc_byte x hx _ (by omega)]
    unfold inB encR
    rw [if_neg (by omega), if_neg (by omega), if_neg (by omega), if_neg (by omega), if_neg (by omega), if_neg (by omega), if_pos (by omega), if_neg (by omega), show 24 + 4 + i - 24 - 4 = i by omega]
  rw [h1, h2]
theorem prt_enc (x : Ino) (hx : InW x) (hc : chk x = true) : prt (strN (inB x) 64) = x := by
  obtain ⟨b1, b2, b3, b4, b5, b6⟩ := chk_small hc
  have hz := enc_size x
  unfold prt tk2 tk8 tkR
  rw [hz, if_pos (by decide), if_pos (by decide), if_pos (by decide), if_pos (by decide), if_pos (by decide), enc_r x hx.d hx.a, if_pos ⟨by decide, b6⟩, enc_k x hx.d (by omega), enc_l x hx.d (by omega), enc_h x hx.d (by omega), enc_t x hx.d hx.t]
  have hs := enc_s x hx.d (by omega)
  have hs2 : ((szI (at8 (strN (inB x) 64) 8) : Nat) : Int) = x.s := by
    unfold szI
    rw [if_pos (by omega)]
    exact hs
  rw [hs2]
theorem dec_enc (x : Ino) (hx : InW x) (hc : chk x = true) : decOk (strN (inB x) 64) = true ∧ decV (strN (inB x) 64) = x ∧ decE (strN (inB x) 64) = 0 := by
  have hp := prt_enc x hx hc
  have hk : decOk (strN (inB x) 64) = true := by
    unfold decOk
    rw [hp, hc, decide_eq_true rfl]
    rfl
  refine ⟨hk, ?_, ?_⟩
  · unfold decV
    rw [hk, if_pos rfl, hp]
  · unfold decE
    rw [hk]
    rfl
theorem dec_back (s : ByteArray) (h : decOk s = true) : decV s = prt s ∧ chk (prt s) = true ∧ strN (inB (prt s)) 64 = s := by
  have h' := h
  unfold decOk at h'
  rw [Bool.and_eq_true, decide_eq_true_eq] at h'
  exact ⟨by unfold decV; rw [h, if_pos rfl], h'.1, h'.2⟩
end Go.Proofs.Ytpoaipoadokggaa

namespace Go.Proofs.Ytpoaipoadokggaa
set_option maxRecDepth 20000
open Go Go.RowKit
set_option linter.unusedVariables false
set_option linter.unusedSimpArgs false
set_option maxHeartbeats 1000000 in
theorem number_own (n k : Nat) (hk : k ≤ 8) (hn : n < 18446744073709551616) (w : World) :
    Calls Try.prog 28 #[.int .u64 (n : Int), .int .i64 (k : Int)] w fun e w' => ∃ v, e = .returned v ∧ w'.ownsRow w.heap.size 5 1 v k ((digs n k).map (Value.int .u8)) ∧ Below w.heap.size w w' := by
  obtain ⟨i0, hi, hz0, hz1, hz2⟩ := info_parts infoU8
  go_enter Try.func28, Try.ntmps28
  go_wp2
  go_loopw [0, 5, 6] (fun m v i wr => ∃ j : Nat, j ≤ k ∧ i = .int .i64 j ∧ m = .int .u64 ((n / 256 ^ j : Nat) : Int) ∧ wr.ownsRow w.heap.size 5 1 v j ((digs n j).map (Value.int .u8)) ∧ Below w.heap.size w wr) (fun _ _ i _ => k - (intOf i).toNat)
  case atStart =>
    refine ⟨0, by omega, rfl, by simp, ?_, (Below.refl _ _).alloc (Nat.le_refl _) _⟩
    exact World.ownsRow_lit w #[] 0 (Nat.le_refl _) (by decide) rfl
  case round =>
    obtain ⟨j, hj, rfl, rfl, hown, hbel⟩ := hrel
    by_cases hlt : j < k
    · have hv := hown.lt
      have hqn : n / 256 ^ j ≤ n := Nat.div_le_self _ _
      have HD := digs_succ n j
      have HQ : n / 256 ^ (j + 1) = n / 256 ^ j / 256 := by rw [Nat.pow_succ, Nat.div_div_eq_div_mul]
      generalize hq : n / 256 ^ j = q at *
      have HD' : Hid (digs n (j + 1) = digs n j ++ [((q % 256 : Nat) : Int)]) := HD
      have HQ' : Hid (n / 256 ^ (j + 1) = q / 256) := HQ
      clear HD HQ hq
      go_wp2_with (first
        | (at_builtin; refine wpList_append_own _ rfl _ _ 32 rfl w.heap.size 5 i0 (.int .u8 0) 1 1 Try.underlying32 hi hz0 hz1 hz2 rfl (by decide) _ _ _ rfl (hown.alloc _) ⟨wr.heap.size, 0, none⟩ 1 1 [.int .u8 ((q : Int) % 256)] rfl rfl (cell_one_new _ _ _) (fun x hx => by simp at hx; subst hx; rfl) (by unfold maxLen; omega) (by omega) (by have := hbel.size; simp; omega) ?_)
        | go_in)
      intro v' w1 hown' hgrow _
      have hb1 : Below w.heap.size w w1 := (hbel.alloc (by have := hbel.size; omega) _).grown hgrow (by have := hbel.size; simp; omega) (fun k hk => (hv k hk).1)
      clear hown hv hgrow hbel
      go_wp2
      go_roundw
      case rel =>
        refine ⟨j + 1, by omega, by go_num, ?_, ?_, hb1⟩
        · rw [HQ'.out]; simp
        · rw [HD'.out]; simpa using hown'
      case measure => simp [intOf]; omega
    · go_wp2
      go_ret
      have : j = k := by omega
      subst this
      exact ⟨_, rfl, hown, hbel⟩
/-- the number of a text's last m bytes -/
def vN (u : ByteArray) : Nat → Nat
  | 0 => 0
  | m + 1 => 256 * vN u m + tbyte u (u.size - 1 - m)
theorem vN_lt (u : ByteArray) : ∀ m, vN u m < 256 ^ m
  | 0 => Nat.one_pos
  | m + 1 => by
    have h1 := vN_lt u m
    have h2 := tbyte_lt u (u.size - 1 - m)
    show 256 * vN u m + tbyte u (u.size - 1 - m) < 256 ^ (m + 1)
    rw [Nat.pow_succ]
    omega
theorem pow256 (m : Nat) (h : m ≤ 7) : 256 ^ m ≤ 72057594037927936 := by
  have : (256 : Nat) ^ m ≤ 256 ^ 7 := Nat.pow_le_pow_right (by decide) h
  exact this
set_option maxHeartbeats 4000000 in
theorem value_any (u : ByteArray) (hu : u.size ≤ 8) (w : World) : Calls Try.prog 33 #[.string u] w fun e w' => e = .returned (.int .u64 ((vN u u.size : Nat) : Int)) ∧ w' = w := by
  go_enter Try.func33, Try.ntmps33
  go_wp2
  go_loopw [3, 4] (fun v i wr => Hid (∃ m : Nat, m ≤ u.size ∧ i = .int .i64 ((u.size : Int) - 1 - (m : Int)) ∧ v = .int .u64 ((vN u m : Nat) : Int) ∧ wr = w)) (fun _ i _ => (intOf i + 1).toNat)
  case atStart => exact ⟨0, by omega, by simp, rfl, rfl⟩
  case round =>
    obtain ⟨m, hm, rfl, rfl, rfl⟩ := Hid.out hrel
    clear hrel
    by_cases hlt : m < u.size
    · have h0 : 0 ≤ (u.size : Int) - 1 - (m : Int) := by omega
      have h1 : (u.size : Int) - 1 - (m : Int) < (u.size : Int) := by omega
      have hv := vN_lt u m
      have hp := pow256 m (by omega)
      have hj : u.size - 1 - m < u.size := by omega
      have hti : ((u.size : Int) - 1 - (m : Int)).toNat = u.size - 1 - m := by omega
      have hb : u[u.size - 1 - m].toNat < 256 := UInt8.toNat_lt _
      have HS : Hid (vN u (m + 1) = 256 * vN u m + u[u.size - 1 - m].toNat) := by
        show 256 * vN u m + tbyte u (u.size - 1 - m) = _
        rw [tbyte_get u _ hj]
      have hw1 : IntKind.u64.wrap (256 * ((vN u m : Nat) : Int)) = 256 * ((vN u m : Nat) : Int) := by
        have := wrap_u64 (256 * vN u m) (by omega)
        simpa using this
      have hw2 : IntKind.u64.wrap (256 * ((vN u m : Nat) : Int) + ((u[u.size - 1 - m].toNat : Nat) : Int)) = 256 * ((vN u m : Nat) : Int) + ((u[u.size - 1 - m].toNat : Nat) : Int) := by
        have := wrap_u64 (256 * vN u m + u[u.size - 1 - m].toNat) (by omega)
        simpa using this
      go_wp2
      have hs2 := HS.out
      refine ⟨⟨m + 1, by omega, by congr 1; omega, by congr 1; omega, trivial⟩, ?_⟩
      simp only [intOf]
      omega
    · have e : m = u.size := by omega
      subst e
      go_wp2
      go_ret
      exact ⟨rfl, rfl⟩
theorem vN2 (u : ByteArray) (h : u.size = 2) : vN u u.size = le2 (tbyte u 0) (tbyte u 1) := by
  rw [h]
  show 256 * (256 * 0 + tbyte u (u.size - 1 - 0)) + tbyte u (u.size - 1 - 1) = _
  rw [h]
  unfold le2
  show 256 * (256 * 0 + tbyte u 1) + tbyte u 0 = _
  omega
theorem vN4 (u : ByteArray) (h : u.size = 4) : vN u u.size = le4 (tbyte u 0) (tbyte u 1) (tbyte u 2) (tbyte u 3) := by
  rw [h]
  show 256 * (256 * (256 * (256 * 0 + tbyte u (u.size - 1 - 0)) + tbyte u (u.size - 1 - 1)) + tbyte u (u.size - 1 - 2)) + tbyte u (u.size - 1 - 3) = _
  rw [h]
  unfold le4
  show 256 * (256 * (256 * (256 * 0 + tbyte u 3) + tbyte u 2) + tbyte u 1) + tbyte u 0 = _
  omega
theorem vN8 (u : ByteArray) (h : u.size = 8) : vN u u.size = le8 (tbyte u 0) (tbyte u 1) (tbyte u 2) (tbyte u 3) (tbyte u 4) (tbyte u 5) (tbyte u 6) (tbyte u 7) := by
  rw [h]
  show 256 * (256 * (256 * (256 * (256 * (256 * (256 * (256 * 0 + tbyte u (u.size - 1 - 0)) + tbyte u (u.size - 1 - 1)) + tbyte u (u.size - 1 - 2)) + tbyte u (u.size - 1 - 3)) + tbyte u (u.size - 1 - 4)) + tbyte u (u.size - 1 - 5)) + tbyte u (u.size - 1 - 6)) + tbyte u (u.size - 1 - 7) = _
  rw [h]
  unfold le8
  show 256 * (256 * (256 * (256 * (256 * (256 * (256 * (256 * 0 + tbyte u 7) + tbyte u 6) + tbyte u 5) + tbyte u 4) + tbyte u 3) + tbyte u 2) + tbyte u 1) + tbyte u 0 = _
  omega
theorem part_at2 (s : ByteArray) (a : Nat) (h : a + 2 ≤ s.size) : vN (s.extract a (a + 2)) (s.extract a (a + 2)).size = at2 s a := by
  rw [vN2 _ (by rw [extract_size s a (a + 2) h]; omega)]
  unfold at2
  rw [tbyte_extract0 s a 2 0 (by decide), tbyte_extract0 s a 2 1 (by decide)]
  rfl
theorem part_at4 (s : ByteArray) (a : Nat) (h : a + 4 ≤ s.size) : vN (s.extract a (a + 4)) (s.extract a (a + 4)).size = at4 s a := by
  rw [vN4 _ (by rw [extract_size s a (a + 4) h]; omega)]
  unfold at4
  rw [tbyte_extract0 s a 4 0 (by decide), tbyte_extract0 s a 4 1 (by decide), tbyte_extract0 s a 4 2 (by decide), tbyte_extract0 s a 4 3 (by decide)]
  rfl
theorem part_at8 (s : ByteArray) (a : Nat) (h : a + 8 ≤ s.size) : vN (s.extract a (a + 8)) (s.extract a (a + 8)).size = at8 s a := by
  rw [vN8 _ (by rw [extract_size s a (a + 8) h]; omega)]
  unfold at8
  rw [tbyte_extract0 s a 8 0 (by decide), tbyte_extract0 s a 8 1 (by decide), tbyte_extract0 s a 8 2 (by decide), tbyte_extract0 s a 8 3 (by decide), tbyte_extract0 s a 8 4 (by decide), tbyte_extract0 s a 8 5 (by decide), tbyte_extract0 s a 8 6 (by decide), tbyte_extract0 s a 8 7 (by decide)]
  rfl
end Go.Proofs.Ytpoaipoadokggaa
