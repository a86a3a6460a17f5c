/- Entries read from a text: the program's Decode. -/
import Derived.Test.YtojnlmfahgeidaaGreatDoorHOrders
import Derived.Test.YtojnlmfahgeidaaGreatDoorHMathCount
import Derived.Test.YtojnlmfahgeidaaGreatDoorHBytes
import Derived.BigQuiet
import Derived.Deep.QuietTactic
import Derived.Handy
import Derived.ArgAppend
import Derived.Lib.ConvBytes

namespace Go.Proofs.YtojnlmfahgeidaaGreatDoor
set_option maxRecDepth 20000
open Go Go.RowKit
set_option linter.unusedVariables false
set_option linter.unusedSimpArgs false
/-- a number's bytes, the lowest first -/
def nb (x j : Nat) : Nat := x / 256 ^ j % 256
/-- an entry's bytes -/
def entF (i : Nat) (s : ByteArray) (j : Nat) : Nat :=
  if j < 4 then nb i j else if j < 6 then nb s.size (j - 4) else if j < 8 then 0 else if j < 8 + s.size then tbyte s (j - 8) else 0
theorem bytes32_nb (x : Nat) (w : World) : Calls Tryz.prog 158 #[.int .u32 (x : Int)] w fun e w' => e = .returned (.agg (va 4 (iv .u8 (nb x)))) ∧ Below w.heap.size w w' := by
  have h : va 4 (iv .u8 (nb x)) = #[.int .u8 ((x % 256 : Nat) : Int), .int .u8 ((x / 256 % 256 : Nat) : Int), .int .u8 ((x / 65536 % 256 : Nat) : Int), .int .u8 ((x / 16777216 % 256 : Nat) : Int)] := by
    show #[iv .u8 (nb x) 0, iv .u8 (nb x) 1, iv .u8 (nb x) 2, iv .u8 (nb x) 3] = _
    simp [iv, nb]
  rw [h]
  exact qbytes32_any x w
theorem bytes16_nb (x : Nat) (w : World) : Calls Tryz.prog 159 #[.int .u16 (x : Int)] w fun e w' => e = .returned (.agg (va 2 (iv .u8 (nb x)))) ∧ Below w.heap.size w w' := by
  have h : va 2 (iv .u8 (nb x)) = #[.int .u8 ((x % 256 : Nat) : Int), .int .u8 ((x / 256 % 256 : Nat) : Int)] := by
    show #[iv .u8 (nb x) 0, iv .u8 (nb x) 1] = _
    simp [iv, nb]
  rw [h]
  exact bytes16_any x w
theorem wrap_u32 (i : Nat) (h : i < 4294967296) : IntKind.u32.wrap (i : Int) = (i : Int) := by
  unfold IntKind.wrap
  simp only [IntKind.bits, IntKind.signed]
  have : ((i : Int)) % (2 ^ 32) = (i : Int) := by omega
  simp [this]
  omega
theorem wrap_u16 (i : Nat) (h : i < 65536) : IntKind.u16.wrap (i : Int) = (i : Int) := by
  unfold IntKind.wrap
  simp only [IntKind.bits, IntKind.signed]
  have : ((i : Int)) % (2 ^ 16) = (i : Int) := by omega
  simp [this]
  omega
theorem sizeB4 : (Tryz.prog.info? 277).map (·.size) = some 4 := by kernel_rfl
theorem sizeB2 : (Tryz.prog.info? 279).map (·.size) = some 2 := by kernel_rfl
theorem copy_blk {w : World} {ty : TypeId} {g o dLen dCap g2 n sCap N : Nat} {T T2 : TypeId} {p f : Nat → Nat} (hb : Blk w g T (va N (iv .u8 p))) (hb2 : Blk w g2 T2 (va n (iv .u8 f))) (hn : n ≤ dLen) (hfit : o + n ≤ N) :
    (Builtin.copy_ #[283, 283] ty #[.slice (some ⟨g, o, none⟩) dLen dCap, .slice (some ⟨g2, 0, none⟩) n sCap]).run Tryz.prog w = .ok (goInt n) (w.setRow g (va N (iv .u8 (putAt p o n f)))) := by
  have hl : (byL f n).length = n := byL_length f n
  have h := run_copy_row (P := Tryz.prog) w 283 283 ty 5 g o dLen dCap ⟨g2, 0, none⟩ n sCap _ T (byL f n) Tryz.underlying283 ksizeU8 hb (by rw [hl]; show n = min n dLen; omega)
    (fun j v hv => by
      have hj : j < n := by have := (List.getElem?_eq_some_iff.1 hv).1; rw [hl] at this; exact this
      rw [byL_at f n j hj] at hv
      cases hv
      rw [show (⟨g2, 0, none⟩ : Addr).add j = ⟨g2, j, none⟩ from by rcases j with _ | j <;> simp [Addr.add]]
      exact hb2.cv hj) (by rw [hl, va_size]; exact hfit) (mem_iv_one _ _ _)
  rw [hl] at h
  rw [h, ← splice_put N o n p f hfit]
  unfold splice
  rw [hl, List.append_assoc]
theorem zero_e64 (w : World) : (zeroValue 282).run Tryz.prog w = .ok (.agg (va 64 (iv .u8 fun _ => 0))) w := by
  have h : (Tryz.prog.info? 282).map (·.zero) = some (some (.agg (va 64 (iv .u8 fun _ => 0)))) := by kernel_rfl
  cases hq : Tryz.prog.info? 282 with
  | none => simp [hq] at h
  | some i =>
    have hz : i.zero = some (.agg (va 64 (iv .u8 fun _ => 0))) := by simpa [hq] using h
    simp [zeroValue, typeInfo, hq, hz]
theorem put_ent (i : Nat) (s : ByteArray) (j : Nat) : putAt (putAt (putAt (fun _ => 0) 0 4 (nb i)) 4 2 (nb s.size)) 8 s.size (tbyte s) j = entF i s j := by
  unfold putAt entF
  by_cases h0 : j < 4
  · rw [if_pos h0, if_neg (by omega), if_neg (by omega), if_pos (by omega), Nat.sub_zero]
  · by_cases h1 : j < 6
    · rw [if_neg h0, if_pos h1, if_neg (by omega), if_pos (by omega)]
    · rw [if_neg h0, if_neg h1]
      by_cases h2 : j < 8
      · rw [if_pos h2, if_neg (by omega), if_neg (by omega), if_neg (by omega)]
      · rw [if_neg h2]
        by_cases h3 : j < 8 + s.size
        · rw [if_pos h3, if_pos (by omega)]
        · rw [if_neg h3, if_neg (by omega), if_neg (by omega), if_neg (by omega)]
theorem gs_eq {l : Array Bool} {i n : Nat} (h : l.size = n) (hi : i < n) : (l.setIfInBounds i true).getD i false = true := by
  simp [Array.getD, h, hi]
theorem gs_ne {l : Array Bool} {i j : Nat} (h : i ≠ j) : (l.setIfInBounds i true).getD j false = l.getD j false := by
  rw [Array.getD_eq_getD_getElem?, Array.getD_eq_getD_getElem?, Array.getElem?_setIfInBounds, if_neg h]
abbrev lkV (i : Int) (s : ByteArray) : Value := .agg #[.int .i64 i, .string s]
/-- what has been done of the region with two calls and two boxes -/
def qencR (w : World) (i : Nat) (s : ByteArray) (l : Array Bool) (a : Act) (W : World) : Prop :=
  ∃ (x25 x30 x5 x6 : Value) (g5 g6 : Nat), a = ({ tmps := #[lkV (i : Int) s, Value.pointer (some ⟨w.heap.size, 0, none⟩), Value.string ⟨#[]⟩, Value.int .i64 0, Value.int .i64 0, x5, x6, undef, Value.pointer (some ⟨w.heap.size, 0, none⟩), Value.int .i64 (i : Int), Value.bool false, Value.bool false, Value.pointer (some ⟨w.heap.size, 0, none⟩), Value.int .i64 (i : Int), Value.bool false, Value.bool false, Value.pointer (some ⟨w.heap.size, 1, none⟩), Value.string s, Value.int .i64 0, Value.int .i64 0, Value.bool false, undef, Value.pointer (some ⟨w.heap.size, 0, none⟩), Value.int .i64 (i : Int), Value.int .u32 (i : Int), x25, Value.pointer (some ⟨w.heap.size, 1, none⟩), Value.string s, Value.int .i64 (s.size : Int), Value.int .u16 (s.size : Int), x30, undef, undef, undef, undef, undef, undef, undef, undef, undef, undef, undef, undef], defers := [] } : Act) ∧ Hid (l.size = 13 ∧ Blk W w.heap.size 36 #[.int .i64 (i : Int), .string s] ∧ Below w.heap.size w W ∧ (l.getD 3 false = true → x25 = .agg (va 4 (iv .u8 (nb i)))) ∧ (l.getD 8 false = true → x30 = .agg (va 2 (iv .u8 (nb s.size)))) ∧
    (l.getD 9 false = true → x5 = .pointer (some ⟨g5, 0, none⟩) ∧ w.heap.size < g5 ∧ Blk W g5 277 (va 4 (iv .u8 (if l.getD 11 false then nb i else fun _ => 0)))) ∧
    (l.getD 10 false = true → x6 = .pointer (some ⟨g6, 0, none⟩) ∧ w.heap.size < g6 ∧ Blk W g6 279 (va 2 (iv .u8 (if l.getD 12 false then nb s.size else fun _ => 0)))) ∧
    (l.getD 9 false = true → l.getD 10 false = true → g5 ≠ g6))
section
variable (s : ByteArray)
set_option maxHeartbeats 4000000 in
theorem encode_arg (i : Int) (hi : i < 1 ∨ 4096 < i) (w : World) :
    Calls Tryz.prog 109 #[lkV i s] w fun e w' => e = .returned (.tuple #[.string ⟨#[]⟩, .int .i64 1]) ∧ Below w.heap.size w w' := by
  have hb : Below w.heap.size w (w.alloc (.cells #[.int .i64 i, .string s] 36)) := below_new1 _ _
  have HB : Hid (Below w.heap.size w (w.alloc (.cells #[.int .i64 i, .string s] 36))) := hb
  clear hb
  by_cases h1 : i < 1
  · clear hi
    go_enter Tryz.func109, Tryz.ntmps109
    go_wp2_with fail
    go_ret2
    exact ⟨rfl, HB.out⟩
  · have h2 : 4096 < i := by omega
    clear hi
    go_enter Tryz.func109, Tryz.ntmps109
    go_wp2_with fail
    go_ret2
    exact ⟨rfl, HB.out⟩
set_option maxHeartbeats 4000000 in
theorem encode_name (i : Int) (h1 : 1 ≤ i) (h2 : i ≤ 4096) (hn : isName s.data.toList = false) (w : World) :
    Calls Tryz.prog 109 #[lkV i s] w fun e w' => e = .returned (.tuple #[.string ⟨#[]⟩, .int .i64 130]) ∧ Below w.heap.size w w' := by
  have HB : Hid (Below w.heap.size w (w.alloc (.cells #[.int .i64 i, .string s] 36))) := below_new1 _ _
  have HC : Hid (∀ w : World, Calls Tryz.prog 58 #[.string s] w fun e w' => e = .returned (.int .i64 130) ∧ Below w.heap.size w w') := fun w => by
    have := qcheck_any s w
    rw [show nameE s.data.toList = 130 from by unfold nameE; rw [hn]; rfl] at this
    exact this
  go_enter Tryz.func109, Tryz.ntmps109
  go_wp2_with fail
  refine (HC.out _).mono ?_
  intro e w2 hw2
  obtain ⟨he2, hw2⟩ := hw2
  subst he2
  have HB2 : Hid (Below w.heap.size w w2) := HB.out.trans (hw2.mono HB.out.size)
  clear hw2
  go_wp2_with fail
  go_ret2
  exact ⟨rfl, HB2.out⟩
set_option maxHeartbeats 4000000 in
theorem encode_ok (i : Nat) (h1 : 1 ≤ i) (h2 : i ≤ 4096) (hn : isName s.data.toList = true) (w : World) :
    Calls Tryz.prog 109 #[lkV (i : Int) s] w fun e w' => e = .returned (.tuple #[.string (strN (entF i s) 64), .int .i64 0]) ∧ Below w.heap.size w w' := by
  have h56 : s.size ≤ 56 := by rw [Lib.size_eq]; exact (isName_len hn).2
  have HB : Hid (Below w.heap.size w (w.alloc (.cells #[.int .i64 (i : Int), .string s] 36))) := below_new1 _ _
  have HBX : Hid (Blk (w.alloc (.cells #[.int .i64 (i : Int), .string s] 36)) w.heap.size 36 #[.int .i64 (i : Int), .string s]) := Blk.new _ _ _
  have HC : Hid (∀ w : World, Calls Tryz.prog 58 #[.string s] w fun e w' => e = .returned (.int .i64 0) ∧ Below w.heap.size w w') := fun w => by
    have := qcheck_any s w
    rw [show nameE s.data.toList = 0 from by unfold nameE; rw [hn]; rfl] at this
    exact this
  clear hn
  have i1 : ¬ ((i : Int) < 1) := by omega
  have i2 : ¬ ((4096 : Int) < (i : Int)) := by omega
  have hw1 : IntKind.u32.wrap (i : Int) = (i : Int) := wrap_u32 i (by omega)
  have hw2 : IntKind.u16.wrap (s.size : Int) = (s.size : Int) := wrap_u16 s.size (by omega)
  go_enter Tryz.func109, Tryz.ntmps109
  go_wp2_with fail
  refine (HC.out _).mono ?_
  intro e w2 hw2
  obtain ⟨he2, hw2⟩ := hw2
  subst he2
  have HB2 : Hid (Below w.heap.size w w2 ∧ Blk w2 w.heap.size 36 #[.int .i64 (i : Int), .string s]) := ⟨HB.out.trans (hw2.mono HB.out.size), HBX.out.below hw2 (by simp)⟩
  clear hw2 HB HBX HC
  go_wp2_with fail
  refine wp_region_mach (fun W => Blk W w.heap.size 36 #[.int .i64 (i : Int), .string s]) (fun i l => match i with | 3 => true | 8 => true | 9 => !l.getD 9 false && !l.getD 11 false | 10 => !l.getD 10 false && !l.getD 12 false | 11 => l.getD 3 false && l.getD 9 false | 12 => l.getD 8 false && l.getD 10 false | _ => false)
    (fun l => l.getD 3 false && l.getD 8 false && l.getD 9 false && l.getD 10 false && l.getD 11 false && l.getD 12 false) [0, 1, 2, 4, 5, 6, 7] 6 (qencR w i s) (by kernel_rfl) (by kernel_rfl) HB2.out.2.drew ?_ ?_ ?_
  · refine ⟨_, Value.pointer (some ⟨w.heap.size, 0, none⟩), rfl, Or.inl ⟨by rfl, fun W hW => by go_simp⟩, ?_⟩
    simp only [Act.put, List.setIfInBounds_toArray, List.set_cons_zero, List.set_cons_succ]
    refine ⟨_, Value.int .i64 (i : Int), rfl, Or.inl ⟨by rfl, fun W hW => by have hW1 : W.cell? ⟨w.heap.size, 0, none⟩ = some (.int .i64 (i : Int)) := hW.cell 0; go_simp⟩, ?_⟩
    simp only [Act.put, List.setIfInBounds_toArray, List.set_cons_zero, List.set_cons_succ]
    refine ⟨_, Value.int .u32 (i : Int), rfl, Or.inl ⟨by rfl, fun W hW => by go_simp⟩, ?_⟩
    simp only [Act.put, List.setIfInBounds_toArray, List.set_cons_zero, List.set_cons_succ]
    refine ⟨_, Value.pointer (some ⟨w.heap.size, 1, none⟩), rfl, Or.inl ⟨by rfl, fun W hW => by go_simp⟩, ?_⟩
    simp only [Act.put, List.setIfInBounds_toArray, List.set_cons_zero, List.set_cons_succ]
    refine ⟨_, Value.string s, rfl, Or.inl ⟨by rfl, fun W hW => by have hW1 : W.cell? ⟨w.heap.size, 1, none⟩ = some (.string s) := hW.cell 1; go_simp⟩, ?_⟩
    simp only [Act.put, List.setIfInBounds_toArray, List.set_cons_zero, List.set_cons_succ]
    refine ⟨_, Value.int .i64 (s.size : Int), rfl, Or.inl ⟨by rfl, fun W hW => by go_simp⟩, ?_⟩
    simp only [Act.put, List.setIfInBounds_toArray, List.set_cons_zero, List.set_cons_succ]
    refine ⟨_, Value.int .u16 (s.size : Int), rfl, Or.inl ⟨by rfl, fun W hW => by go_simp⟩, ?_⟩
    simp only [Act.put, List.setIfInBounds_toArray, List.set_cons_zero, List.set_cons_succ]
    exact ⟨undef, undef, undef, undef, 0, 0, rfl, rfl, HB2.out.2.drew, HB2.out.1.drew, fun h => absurd (show false = true from h) (by decide), fun h => absurd (show false = true from h) (by decide), fun h => absurd (show false = true from h) (by decide), fun h => absurd (show false = true from h) (by decide), fun h => absurd (show false = true from h) (by decide)⟩
  · intro j l a W hp hR
    obtain ⟨x25, x30, x5, x6, g5, g6, rfl, H⟩ := hR
    have hj : j = 3 ∨ j = 8 ∨ j = 9 ∨ j = 10 ∨ j = 11 ∨ j = 12 := by
      split at hp <;> simp_all
    obtain ⟨hsz, hbox, hbel, h3, h8, h9, h10, hne⟩ := H.out
    have HS : Hid (W.heap.size = W.heap.size) := rfl
    clear H
    rcases hj with rfl | rfl | rfl | rfl | rfl | rfl
    · clear hp
      simp only [List.cons_append, List.nil_append, List.append_nil, List.filterMap_cons, List.filterMap_nil, List.getElem?_toArray, List.getElem?_cons_zero, List.getElem?_cons_succ]
      go_wp2_with fail
      refine (bytes32_nb i _).mono ?_
      intro e w3 hw3
      obtain ⟨he3, hb3⟩ := hw3
      subst he3
      have HX : Hid (Blk w3 w.heap.size 36 #[.int .i64 (i : Int), .string s]) := hbox.below hb3 hbox.lt
      have HR : Hid (_ ∧ _ ∧ _ ∧ _ ∧ _ ∧ _) := ⟨hsz, hbel.trans (hb3.mono hbel.size), h8, fun h => (⟨(h9 h).1, (h9 h).2.1, (h9 h).2.2.below hb3 (h9 h).2.2.lt⟩ : _ ∧ _ ∧ Blk w3 g5 _ _), fun h => (⟨(h10 h).1, (h10 h).2.1, (h10 h).2.2.below hb3 (h10 h).2.2.lt⟩ : _ ∧ _ ∧ Blk w3 g6 _ _), hne⟩
      clear hbox hbel h3 h8 h9 h10 hne hb3
      go_wp2_with fail
      refine ⟨rfl, HX.out, _, x30, x5, x6, g5, g6, rfl, ?_⟩
      obtain ⟨hsz, hbel, h8, h9, h10, hne⟩ := HR.out
      refine ⟨by simpa using hsz, HX.out, hbel, fun _ => rfl, ?_, ?_, ?_, ?_⟩
      · rw [gs_ne (by decide)]; exact h8
      · rw [gs_ne (by decide), gs_ne (by decide)]; exact h9
      · rw [gs_ne (by decide), gs_ne (by decide)]; exact h10
      · rw [gs_ne (by decide), gs_ne (by decide)]; exact hne
    · clear hp
      simp only [List.cons_append, List.nil_append, List.append_nil, List.filterMap_cons, List.filterMap_nil, List.getElem?_toArray, List.getElem?_cons_zero, List.getElem?_cons_succ]
      go_wp2_with fail
      refine (bytes16_nb s.size _).mono ?_
      intro e w3 hw3
      obtain ⟨he3, hb3⟩ := hw3
      subst he3
      have HX : Hid (Blk w3 w.heap.size 36 #[.int .i64 (i : Int), .string s]) := hbox.below hb3 hbox.lt
      have HR : Hid (_ ∧ _ ∧ _ ∧ _ ∧ _ ∧ _) := ⟨hsz, hbel.trans (hb3.mono hbel.size), h3, fun h => (⟨(h9 h).1, (h9 h).2.1, (h9 h).2.2.below hb3 (h9 h).2.2.lt⟩ : _ ∧ _ ∧ Blk w3 g5 _ _), fun h => (⟨(h10 h).1, (h10 h).2.1, (h10 h).2.2.below hb3 (h10 h).2.2.lt⟩ : _ ∧ _ ∧ Blk w3 g6 _ _), hne⟩
      clear hbox hbel h3 h8 h9 h10 hne hb3
      go_wp2_with fail
      refine ⟨rfl, HX.out, x25, _, x5, x6, g5, g6, rfl, ?_⟩
      obtain ⟨hsz, hbel, h3, h9, h10, hne⟩ := HR.out
      refine ⟨by simpa using hsz, HX.out, hbel, ?_, fun _ => rfl, ?_, ?_, ?_⟩
      · rw [gs_ne (by decide)]; exact h3
      · rw [gs_ne (by decide), gs_ne (by decide)]; exact h9
      · rw [gs_ne (by decide), gs_ne (by decide)]; exact h10
      · rw [gs_ne (by decide), gs_ne (by decide)]; exact hne
    · simp only [Bool.and_eq_true, Bool.not_eq_true'] at hp
      have hp11 := hp.2
      simp only [List.cons_append, List.nil_append, List.append_nil, List.filterMap_cons, List.filterMap_nil, List.getElem?_toArray, List.getElem?_cons_zero, List.getElem?_cons_succ]
      go_wp2_with fail
      refine ⟨rfl, hbox.alloc _, x25, x30, _, x6, W.heap.size, g6, rfl, ?_⟩
      refine ⟨by simpa using hsz, hbox.alloc _, hbel.alloc hbel.size _, ?_, ?_, fun _ => ⟨rfl, by have := hbox.lt; omega, by rw [gs_ne (by decide), hp11]; exact Blk.new _ _ _⟩, ?_, fun _ h => by rw [gs_ne (by decide)] at h; have := (h10 h).2.2.lt; omega⟩
      · rw [gs_ne (by decide)]; exact h3
      · rw [gs_ne (by decide)]; exact h8
      · rw [gs_ne (by decide), gs_ne (by decide)]; exact fun h => ⟨(h10 h).1, (h10 h).2.1, (h10 h).2.2.alloc _⟩
    · simp only [Bool.and_eq_true, Bool.not_eq_true'] at hp
      have hp11 := hp.2
      simp only [List.cons_append, List.nil_append, List.append_nil, List.filterMap_cons, List.filterMap_nil, List.getElem?_toArray, List.getElem?_cons_zero, List.getElem?_cons_succ]
      go_wp2_with fail
      refine ⟨rfl, hbox.alloc _, x25, x30, x5, _, g5, W.heap.size, rfl, ?_⟩
      refine ⟨by simpa using hsz, hbox.alloc _, hbel.alloc hbel.size _, ?_, ?_, ?_, fun _ => ⟨rfl, by have := hbox.lt; omega, by rw [gs_ne (by decide), hp11]; exact Blk.new _ _ _⟩, fun h _ => by rw [gs_ne (by decide)] at h; have := (h9 h).2.2.lt; omega⟩
      · rw [gs_ne (by decide)]; exact h3
      · rw [gs_ne (by decide)]; exact h8
      · rw [gs_ne (by decide), gs_ne (by decide)]; exact fun h => ⟨(h9 h).1, (h9 h).2.1, (h9 h).2.2.alloc _⟩
    · simp only [Bool.and_eq_true] at hp
      obtain rfl := h3 hp.1
      obtain ⟨rfl, hgl, hblk⟩ := h9 hp.2
      simp only [List.cons_append, List.nil_append, List.append_nil, List.filterMap_cons, List.filterMap_nil, List.getElem?_toArray, List.getElem?_cons_zero, List.getElem?_cons_succ]
      (refine wpList_store_row (by rfl) 277 _ _ (by rfl) (g5) (va 4 (iv .u8 (nb i))) (by rfl) (by rfl) 277 _ hblk (sizeB4.trans (by rw [va_size])) (by simp only [va_size]) (iv_one _ _ _) ?_; simp only [Act.put, List.setIfInBounds_toArray, List.set_cons_zero, List.set_cons_succ])
      refine ⟨rfl, hbox.other _ (by omega), _, x30, _, x6, g5, g6, rfl, ?_⟩
      refine ⟨by simpa using hsz, hbox.other _ (by omega), below_setRow hbel (by omega) _, fun _ => rfl, fun h => by rw [gs_ne (by decide)] at h; exact h8 h, fun _ => ⟨rfl, hgl, by rw [gs_eq hsz (by decide)]; exact hblk.set _⟩, fun h => by rw [gs_ne (by decide)] at h; rw [gs_ne (by decide)]; exact ⟨(h10 h).1, (h10 h).2.1, (h10 h).2.2.other _ (fun e => (hne hp.2 h) e.symm)⟩, fun h h' => by rw [gs_ne (by decide)] at h h'; exact hne h h'⟩
    · simp only [Bool.and_eq_true] at hp
      obtain rfl := h8 hp.1
      obtain ⟨rfl, hgl, hblk⟩ := h10 hp.2
      simp only [List.cons_append, List.nil_append, List.append_nil, List.filterMap_cons, List.filterMap_nil, List.getElem?_toArray, List.getElem?_cons_zero, List.getElem?_cons_succ]
      (refine wpList_store_row (by rfl) 279 _ _ (by rfl) (g6) (va 2 (iv .u8 (nb s.size))) (by rfl) (by rfl) 279 _ hblk (sizeB2.trans (by rw [va_size])) (by simp only [va_size]) (iv_one _ _ _) ?_; simp only [Act.put, List.setIfInBounds_toArray, List.set_cons_zero, List.set_cons_succ])
      refine ⟨rfl, hbox.other _ (by omega), x25, _, x5, _, g5, g6, rfl, ?_⟩
      refine ⟨by simpa using hsz, hbox.other _ (by omega), below_setRow hbel (by omega) _, fun h => by rw [gs_ne (by decide)] at h; exact h3 h, fun _ => rfl, fun h => by rw [gs_ne (by decide)] at h; rw [gs_ne (by decide)]; exact ⟨(h9 h).1, (h9 h).2.1, (h9 h).2.2.other _ (fun e => (hne h hp.2) e)⟩, fun _ => ⟨rfl, hgl, by rw [gs_eq hsz (by decide)]; exact hblk.set _⟩, fun h h' => by rw [gs_ne (by decide)] at h h'; exact hne h h'⟩
  · intro l a W hp hR
    obtain ⟨x25, x30, x5, x6, g5, g6, rfl, H⟩ := hR
    simp only [Bool.and_eq_true] at hp
    obtain ⟨⟨⟨⟨⟨p3, p8⟩, p9⟩, p10⟩, p11⟩, p12⟩ := hp
    obtain ⟨hsz, hbox, hbel, h3, h8, h9, h10, hne⟩ := H.out
    clear H
    obtain ⟨rfl, hg5, hk5⟩ := h9 p9
    obtain ⟨rfl, hg6, hk6⟩ := h10 p10
    have hn := hne p9 p10
    rw [p11, if_pos rfl] at hk5
    rw [p12, if_pos rfl] at hk6
    obtain rfl := h3 p3
    obtain rfl := h8 p8
    refine ⟨rfl, ?_⟩
    have HZ : Hid (_ ∧ _ ∧ _ ∧ _) := ⟨hbox, hbel, hk5, hk6⟩
    clear h3 h8 h9 h10 hne p3 p8 p9 p10 p11 p12 hsz hbox hbel hk5 hk6 l
    have HZ2 : Hid (Blk (W.alloc (.cells (va 64 (iv .u8 fun _ => 0)) 282)) W.heap.size 282 (va 64 (iv .u8 fun _ => 0)) ∧ Blk (W.alloc (.cells (va 64 (iv .u8 fun _ => 0)) 282)) w.heap.size 36 #[.int .i64 (i : Int), .string s] ∧ Below w.heap.size w (W.alloc (.cells (va 64 (iv .u8 fun _ => 0)) 282)) ∧ Blk (W.alloc (.cells (va 64 (iv .u8 fun _ => 0)) 282)) g5 277 (va 4 (iv .u8 (nb i))) ∧ Blk (W.alloc (.cells (va 64 (iv .u8 fun _ => 0)) 282)) g6 279 (va 2 (iv .u8 (nb s.size))) ∧ w.heap.size < W.heap.size ∧ g5 < W.heap.size ∧ g6 < W.heap.size) :=
      ⟨Blk.new _ _ _, HZ.out.1.alloc _, HZ.out.2.1.alloc HZ.out.2.1.size _, HZ.out.2.2.1.alloc _, HZ.out.2.2.2.alloc _, HZ.out.1.lt, HZ.out.2.2.1.lt, HZ.out.2.2.2.lt⟩
    have hz := zero_e64
    go_wp2_with fail
    generalize W.alloc (.cells (va 64 (iv .u8 fun _ => 0)) 282) = W7 at HZ2 ⊢
    generalize W.heap.size = g7 at HZ2 ⊢
    clear hz HZ
    have h7 : w.heap.size < g7 ∧ g5 < g7 ∧ g6 < g7 := HZ2.out.2.2.2.2.2
    have hc1 := fun ty => copy_blk (ty := ty) (o := 0) (dLen := 4) (dCap := 64) (sCap := 4) HZ2.out.1.drew HZ2.out.2.2.2.1.drew (by decide) (by decide)
    have HZ3 : Hid (_ ∧ _ ∧ _ ∧ _) := ⟨HZ2.out.1.drew.set (va 64 (iv .u8 (putAt (fun _ => 0) 0 4 (nb i)))), HZ2.out.2.1.drew.other (g := g7) (va 64 (iv .u8 (putAt (fun _ => 0) 0 4 (nb i)))) (by omega), HZ2.out.2.2.2.2.1.drew.other (g := g7) (va 64 (iv .u8 (putAt (fun _ => 0) 0 4 (nb i)))) (by omega), below_setRow HZ2.out.2.2.1.drew (Nat.le_of_lt h7.1) (va 64 (iv .u8 (putAt (fun _ => 0) 0 4 (nb i))))⟩
    go_region
    generalize W7.drew.setRow g7 (va 64 (iv .u8 (putAt (fun _ => 0) 0 4 (nb i)))) = W8 at HZ3 ⊢
    clear hc1 HZ2
    go_wp2_with fail
    have hc2 := fun ty => copy_blk (ty := ty) (o := 4) (dLen := 2) (dCap := 60) (sCap := 2) HZ3.out.1.drew HZ3.out.2.2.1.drew (by decide) (by decide)
    have HF : ∀ j, j < 64 → putAt (putAt (putAt (fun _ => 0) 0 4 (nb i)) 4 2 (nb s.size)) 8 s.size (tbyte s) j = entF i s j := fun j hj => put_ent i s j
    generalize putAt (fun _ => 0) 0 4 (nb i) = P1 at *
    have HZ4 : Hid (_ ∧ _ ∧ _) := ⟨HZ3.out.1.drew.set (va 64 (iv .u8 (putAt P1 4 2 (nb s.size)))), HZ3.out.2.1.drew.other (g := g7) (va 64 (iv .u8 (putAt P1 4 2 (nb s.size)))) (by omega), below_setRow HZ3.out.2.2.2.drew (Nat.le_of_lt h7.1) (va 64 (iv .u8 (putAt P1 4 2 (nb s.size))))⟩
    go_region
    generalize W8.drew.setRow g7 (va 64 (iv .u8 (putAt P1 4 2 (nb s.size)))) = W9 at HZ4 ⊢
    clear hc2 HZ3
    go_wp2_with fail
    have hc3 := fun ty => run_copy_text (P := Tryz.prog) W9.drew 283 9 ty 5 g7 8 56 56 s _ 282 s.size Tryz.underlying283 ksizeU8 HZ4.out.1.drew (by show _ = min _ _; omega) (by rw [va_size]; omega)
    generalize HP2 : putAt P1 4 2 (nb s.size) = P2 at *
    have hcell : W9.cell? ⟨w.heap.size, 1, none⟩ = some (.string s) := HZ4.out.2.1.cell 1
    have hcell2 : W9.drew.cell? ⟨w.heap.size, 1, none⟩ = some (.string s) := hcell
    simp only [splice_put 64 8 s.size P2 (tbyte s) (by omega)] at hc3
    have HZ5 : Hid (_ ∧ _) := ⟨HZ4.out.1.drew.set (va 64 (iv .u8 (putAt P2 8 s.size (tbyte s)))), below_setRow HZ4.out.2.2.drew (Nat.le_of_lt h7.1) (va 64 (iv .u8 (putAt P2 8 s.size (tbyte s))))⟩
    go_region
    generalize W9.drew.setRow g7 (va 64 (iv .u8 (putAt P2 8 s.size (tbyte s)))) = W10 at HZ5 ⊢
    clear hc3 hcell hcell2 HZ4
    have hr := run_bytes_text (P := Tryz.prog) W10 283 5 9 Tryz.underlying283 Tryz.underlying5 Tryz.underlying9 HZ5.out.1 0 64 64 (by omega)
    have HE : Hid (strN (fun j => putAt P2 8 s.size (tbyte s) (0 + j)) 64 = strN (entF i s) 64) := strN_congr fun j hj => by
      rw [Nat.zero_add]
      exact HF j hj
    generalize strN (fun j => putAt P2 8 s.size (tbyte s) (0 + j)) 64 = tx at hr HE
    go_wp2_with fail
    go_ret2
    exact ⟨by rw [← HE.out]; rfl, HZ5.out.2⟩
end
end Go.Proofs.YtojnlmfahgeidaaGreatDoor

namespace Go.Proofs.YtojnlmfahgeidaaGreatDoor
open Go Go.RowKit
set_option linter.unusedVariables false

theorem kown_mono {w : World} {B B' e size n : Nat} {v : Value} {xs : List Value} (h : w.ownsRow B e size v n xs) (hB : B' ≤ B) : w.ownsRow B' e size v n xs :=
  ⟨h.1, h.2.imp id fun ⟨g, cap, cur, a, b, r⟩ => ⟨g, cap, cur, a, Nat.le_trans hB b, r⟩⟩
theorem kown_form {w : World} {B e size n : Nat} {v : Value} {xs : List Value} (h : w.ownsRow B e size v n xs) (hn : 0 < n) : ∃ g cap, v = .slice (some ⟨g, 0, none⟩) n cap ∧ B ≤ g ∧ g < w.heap.size := by
  rcases h.2 with ⟨_, h0⟩ | ⟨g, cap, cur, rfl, hb, hg, _⟩
  · omega
  · exact ⟨g, cap, rfl, hb, (Array.getElem?_eq_some_iff.1 hg).1⟩
theorem kown_slice {w : World} {B e size n : Nat} {v : Value} {xs : List Value} (h : w.ownsRow B e size v n xs) : ∃ a cap, v = .slice a n cap := by
  rcases h.2 with ⟨rfl, rfl⟩ | ⟨g, cap, cur, rfl, hb, hg, _⟩
  · exact ⟨none, 0, rfl⟩
  · exact ⟨_, cap, rfl⟩
theorem kown_below {w w' : World} {B e size n : Nat} {v : Value} {xs : List Value} (h : w.ownsRow B e size v n xs) (hb : Below w.heap.size w w') : w'.ownsRow B e size v n xs := by
  refine ⟨h.1, ?_⟩
  rcases h.2 with hn | ⟨g, cap, cur, rfl, hg, hgg, rest⟩
  · exact .inl hn
  · exact .inr ⟨g, cap, cur, rfl, hg, (hb.block g (Array.getElem?_eq_some_iff.1 hgg).1).trans hgg, rest⟩
theorem kown_kept {w w' : World} {B e size n : Nat} {v : Value} {xs : List Value} (h : w.ownsRow B e size v n xs) (hk : ∀ k, B ≤ k → v.ownBlock = some k → w'.heap[k]? = w.heap[k]?) : w'.ownsRow B e size v n xs := by
  refine ⟨h.1, ?_⟩
  rcases h.2 with hn | ⟨g, cap, cur, rfl, hg, hgg, rest⟩
  · exact .inl hn
  · exact .inr ⟨g, cap, cur, rfl, hg, (hk g hg rfl).trans hgg, rest⟩
theorem kown_empty {w : World} {B e size g : Nat} (h : Blk w g e #[]) (hB : B ≤ g) : w.ownsRow B e size (.slice (some ⟨g, 0, none⟩) 0 0) 0 [] :=
  ⟨by simp, .inr ⟨g, 0, #[], rfl, hB, h, Nat.le_refl _, by unfold maxLen; omega, by simp, by simp⟩⟩
end Go.Proofs.YtojnlmfahgeidaaGreatDoor

namespace Go.Proofs.YtojnlmfahgeidaaGreatDoor
set_option maxRecDepth 20000
open Go Go.RowKit
set_option linter.unusedVariables false
set_option linter.unusedSimpArgs false
/-- what Encode answers: the error, and the text -/
def encE (i : Int) (s : ByteArray) : Int := if i < 1 ∨ 4096 < i then 1 else if isName s.data.toList = true then 0 else 130
def encT (i : Int) (s : ByteArray) : ByteArray := if encE i s = 0 then strN (entF i.toNat s) 64 else ⟨#[]⟩
theorem encode_any (i : Int) (s : ByteArray) (w : World) :
    Calls Tryz.prog 109 #[lkV i s] w fun e w' => e = .returned (.tuple #[.string (encT i s), .int .i64 (encE i s)]) ∧ Below w.heap.size w w' := by
  by_cases h1 : i < 1 ∨ 4096 < i
  · have e1 : encE i s = 1 := if_pos h1
    unfold encT
    rw [e1, if_neg (by decide)]
    exact encode_arg s i h1 w
  · cases hn : isName s.data.toList
    · have e1 : encE i s = 130 := by unfold encE; rw [if_neg h1, hn]; rfl
      unfold encT
      rw [e1, if_neg (by decide)]
      exact encode_name s i (by omega) (by omega) hn w
    · have e1 : encE i s = 0 := by unfold encE; rw [if_neg h1, hn]; rfl
      unfold encT
      rw [e1, if_pos rfl]
      obtain ⟨n, rfl⟩ : ∃ n : Nat, i = (n : Int) := ⟨i.toNat, by omega⟩
      rw [Int.toNat_natCast]
      exact encode_ok s n (by omega) (by omega) hn w
theorem nb_lt (x j : Nat) : nb x j < 256 := Nat.mod_lt _ (by decide)
theorem entF_lt (i : Nat) (s : ByteArray) (j : Nat) : entF i s j < 256 := by
  unfold entF
  split
  · exact nb_lt _ _
  · split
    · exact nb_lt _ _
    · split
      · decide
      · split
        · exact tbyte_lt _ _
        · decide
end Go.Proofs.YtojnlmfahgeidaaGreatDoor

namespace Go.Proofs.YtojnlmfahgeidaaGreatDoor
set_option maxRecDepth 20000
open Go Go.RowKit
set_option linter.unusedVariables false
set_option linter.unusedSimpArgs false
theorem res_row3 {P : Program} {fn : Func} {p u v : Tmp} {ty : TypeId} (h : fn.results = #[.cell p ty, .tmp u, .tmp v]) (tmps : Array Value) (w : World) (g : Nat) (t : TypeId) (cs : Array Value) (fr : Nat × Nat) (d : TypeDesc)
    (hp : tmps.getD p undef = .pointer (some ⟨g, 0, none⟩)) (hg : w.heap[g]? = some (.cells cs t fr))
    (hu : P.underlying ty = some d) (hd : (match d with | .struct _ | .array _ _ => true | _ => false) = true) (hi : (P.info? ty).map (·.size) = some cs.size) :
    (results fn tmps).run P w = .ok (.tuple #[.agg cs, tmps.getD u undef, tmps.getD v undef]) w := by
  have hp' : tmps[p]?.getD undef = .pointer (some ⟨g, 0, none⟩) := by simpa using hp
  simp [results, h, hp', asAddr, run_loadVar_row w g t ty cs fr d hg hu hd hi]
/-- what the 64 bytes of an entry say -/
def decI (t : ByteArray) : Nat := qat4 t 0
def decS (t : ByteArray) : ByteArray := t.extract 8 (min (8 + at2 t 4) 64)
theorem qclone_any (s : ByteArray) (hs : s.size ≤ 281474976710656) (w : World) :
    Calls Tryz.prog 188 #[.string s] w fun e w' => e = .returned (.string s) ∧ Below w.heap.size w w' := Any.stringslite_Clone Tryz.cloneA s w hs
theorem qsclone_any (s : ByteArray) (hs : s.size ≤ 281474976710656) (w : World) :
    Calls Tryz.prog 126 #[.string s] w fun e w' => e = .returned (.string s) ∧ Below w.heap.size w w' := by
  have HC := qclone_any s hs
  go_enter Tryz.func126, Tryz.ntmps126
  go_wp2_with fail
  refine (HC _).mono ?_
  intro e w2 hw2
  obtain ⟨he2, hb2⟩ := hw2
  subst he2
  have HB : Hid (Below w.heap.size w w2) := hb2
  clear hb2
  go_wp2_with fail
  go_ret
  exact ⟨rfl, HB.out⟩
theorem sizeLk : (Tryz.prog.info? 36).map (·.size) = some 2 := by kernel_rfl
set_option maxHeartbeats 4000000 in
theorem parts_any (t : ByteArray) (h64 : t.size = 64) (w : World) :
    Calls Tryz.prog 218 #[.string t] w fun e w' => e = .returned (lkV (decI t : Int) (decS t)) ∧ Below w.heap.size w w' := by
  have HT4 : Hid (∀ w : World, Calls Tryz.prog 239 #[.string t, .int .i64 0] w fun e w' => e = .returned (.tuple #[.int .u32 (qat4 t 0 : Int), .bool true]) ∧ Below w.heap.size w w') := qtake32_yes t 0 (by rw [h64]; decide) (by omega)
  have HT2 : Hid (∀ w : World, Calls Tryz.prog 240 #[.string t, .int .i64 4] w fun e w' => e = .returned (.tuple #[.int .u16 (at2 t 4 : Int), .bool true]) ∧ Below w.heap.size w w') := take16_yes t 4 (by rw [h64]; decide) (by omega)
  have hlt : at2 t 4 < 65536 := by
    have h1 : ∀ j, qbyteAt t j < 256 := fun j => UInt8.toNat_lt _
    have := h1 4; have := h1 (4 + 1)
    unfold at2 le2
    omega
  have hl4 : qat4 t 0 < 4294967296 := by
    have h1 : ∀ j, qbyteAt t j < 256 := fun j => UInt8.toNat_lt _
    have := h1 0; have := h1 (0 + 1); have := h1 (0 + 2); have := h1 (0 + 3)
    unfold qat4 le4
    omega
  show Calls Tryz.prog 218 #[.string t] w fun e w' => e = .returned (lkV (qat4 t 0 : Int) (decS t)) ∧ Below w.heap.size w w'
  unfold decS
  generalize qat4 t 0 = i at *
  generalize at2 t 4 = n at *
  generalize hnm0 : t.extract 8 (min (8 + n) 64) = nm
  have HNM : Hid (t.extract 8 (min (8 + n) 64) = nm) := hnm0
  clear hnm0
  have hb0 := below_new1 w (.cells #[.int .i64 0, .string ⟨#[]⟩] 36)
  have hk0 : Blk (w.alloc (.cells #[.int .i64 0, .string ⟨#[]⟩] 36)) w.heap.size 36 #[.int .i64 0, .string ⟨#[]⟩] := Blk.new _ _ _
  have H0 : Hid (_ ∧ _) := ⟨hb0, hk0⟩
  clear hb0 hk0
  go_enter Tryz.func218, Tryz.ntmps218
  go_wp2_with fail
  generalize w.alloc (.cells #[.int .i64 0, .string ⟨#[]⟩] 36) = w1 at H0 ⊢
  refine (HT4.out _).mono ?_
  intro e w2 hw2
  obtain ⟨he2, hb2⟩ := hw2
  subst he2
  have H2 : Hid (Below w.heap.size w w2 ∧ Blk w2 w.heap.size 36 #[.int .i64 0, .string ⟨#[]⟩]) := ⟨H0.out.1.trans (hb2.mono H0.out.1.size), H0.out.2.below hb2 H0.out.2.lt⟩
  clear hb2 H0
  go_wp2_with fail
  refine (HT2.out _).mono ?_
  intro e w3 hw3
  obtain ⟨he3, hb3⟩ := hw3
  subst he3
  have H3 : Hid (Below w.heap.size w w3 ∧ Blk w3 w.heap.size 36 #[.int .i64 0, .string ⟨#[]⟩]) := ⟨H2.out.1.trans (hb3.mono H2.out.1.size), H2.out.2.below hb3 H2.out.2.lt⟩
  clear hb3 H2
  have hw4 : IntKind.i64.wrap (i : Int) = (i : Int) := wrap_small _ (by omega) (by omega)
  have hw2 : IntKind.i64.wrap (n : Int) = (n : Int) := wrap_small _ (by omega) (by omega)
  have hnm : t.extract 8 (min (8 + (n : Int)) 64).toNat = nm := by
    rw [← HNM.out, show (min (8 + (n : Int)) 64).toNat = min (8 + n) 64 from by omega]
  have HCL : Hid (∀ w : World, Calls Tryz.prog 126 #[.string nm] w fun e w' => e = .returned (.string nm) ∧ Below w.heap.size w w') := qsclone_any nm (by rw [← HNM.out, ByteArray.size_extract]; omega)
  go_wp2_with fail
  refine (HCL.out _).mono ?_
  intro e w4 hw4
  obtain ⟨he4, hb4⟩ := hw4
  subst he4
  have H4 : Hid (Below w.heap.size w w4 ∧ Blk w4 w.heap.size 36 #[.int .i64 0, .string ⟨#[]⟩]) := ⟨H3.out.1.trans (hb4.mono H3.out.1.size), H3.out.2.below hb4 H3.out.2.lt⟩
  clear hb4 H3
  have c0 : w4.cell? ⟨w.heap.size, 0, none⟩ = some (.int .i64 0) := H4.out.2.cell 0
  have c1 : w4.cell? ⟨w.heap.size, 1, none⟩ = some (.string ⟨#[]⟩) := H4.out.2.cell 1
  have f0 : w4.frozen? ⟨w.heap.size, 0, none⟩ = false := H4.out.2.frozen 0
  have f1 : w4.frozen? ⟨w.heap.size, 1, none⟩ = false := H4.out.2.frozen 1
  go_wp2_with fail
  try simp only [Exit.inBlock, Exit.then]
  refine bodyPost_ret (results_cell_row Tryz.results218 _ _ w.heap.size 36 #[.int .i64 (i : Int), .string nm] (0, 0) _ rfl ((H4.out.2.put 0 (.int .i64 (i : Int))).put 1 (.string nm)) Tryz.underlying36 rfl (sizeLk.trans (by rfl))) rfl ?_
  exact ⟨rfl, (H4.out.1.setCell (Nat.le_refl _) _).setCell (Nat.le_refl _) _⟩
end Go.Proofs.YtojnlmfahgeidaaGreatDoor

namespace Go.Proofs.YtojnlmfahgeidaaGreatDoor
set_option maxRecDepth 20000
open Go Go.RowKit
set_option linter.unusedVariables false
set_option linter.unusedSimpArgs false
def zT (t : ByteArray) : Bool := t.data.toList.all (· == 0)
def decOk (t : ByteArray) : Bool := decide (encE (decI t) (decS t) = 0) && (encT (decI t) (decS t)).toList == t.toList
/-- what Decode answers: the number, the name, whether there is one, the error -/
def decV (s : ByteArray) (a : Int) : Int × ByteArray × Bool × Int :=
  if 0 ≤ a ∧ a ≤ (s.size : Int) - 64 then
    (if zT (s.extract a.toNat (a.toNat + 64)) = true then (0, ⟨#[]⟩, false, 0)
     else if decOk (s.extract a.toNat (a.toNat + 64)) = true then ((decI (s.extract a.toNat (a.toNat + 64)) : Int), decS (s.extract a.toNat (a.toNat + 64)), true, 0) else (0, ⟨#[]⟩, false, 131))
  else (0, ⟨#[]⟩, false, 131)
theorem dw0 (p : UInt8 → Bool) : ∀ l : List UInt8, l.dropWhile p = [] ↔ ∀ x ∈ l, p x = true
  | [] => by simp
  | a :: l => by
    rw [List.dropWhile_cons]
    by_cases h : p a = true
    · rw [if_pos h, dw0 p l]; simp [h]
    · rw [if_neg h]; simp [h]
theorem tw0 (p : UInt8 → Bool) : ∀ (l : List UInt8) x, x ∈ l.takeWhile p → p x = true
  | [], x, h => by simp at h
  | a :: l, x, h => by
    rw [List.takeWhile_cons] at h
    by_cases h1 : p a = true
    · rw [if_pos h1] at h
      rcases List.mem_cons.1 h with rfl | h
      · exact h1
      · exact tw0 p l x h
    · rw [if_neg h1] at h; simp at h
theorem trim_zero (t : ByteArray) : (⟨(Lib.trimB t.data.toList 0).toArray⟩ : ByteArray).toList.isEmpty = zT t := by
  rw [Lib.toList_data]
  unfold zT Lib.trimB Lib.trimLeftB Lib.trimRightB
  generalize t.data.toList = l
  show (((l.reverse.dropWhile (· == 0)).reverse).dropWhile (· == 0)).isEmpty = _
  have h : (((l.reverse.dropWhile (· == 0)).reverse).dropWhile (· == 0)) = [] ↔ ∀ x ∈ l, (x == 0) = true := by
    constructor
    · intro h
      have h1 := (dw0 _ _).1 h
      have h2 : ∀ x ∈ l.reverse, (x == 0) = true := by
        intro x hx
        rw [← List.takeWhile_append_dropWhile (p := (· == 0)) (l := l.reverse)] at hx
        rcases List.mem_append.1 hx with h3 | h3
        · exact tw0 (fun x => x == 0) _ x h3
        · exact h1 x (by simpa using h3)
      intro x hx; exact h2 x (by simpa using hx)
    · intro h
      have : l.reverse.dropWhile (· == 0) = [] := (dw0 _ _).2 fun x hx => h x (by simpa using hx)
      rw [this]; rfl
  cases hq : (l.all (· == 0))
  · have : ¬ (((l.reverse.dropWhile (· == 0)).reverse).dropWhile (· == 0)) = [] := by
      rw [h]; intro h4; rw [List.all_eq_true.2 h4] at hq; cases hq
    cases hl : (((l.reverse.dropWhile (· == 0)).reverse).dropWhile (· == 0)) with
    | nil => exact absurd hl this
    | cons => rfl
  · rw [h.2 (List.all_eq_true.1 hq)]; rfl
abbrev retD (r : Int × ByteArray × Bool × Int) : Ending := .returned (.tuple #[lkV r.1 r.2.1, .bool r.2.2.1, .int .i64 r.2.2.2])
section
variable (s : ByteArray)
set_option maxHeartbeats 4000000 in
theorem decode_bad (a : Int) (h : ¬ (0 ≤ a ∧ a ≤ (s.size : Int) - 64)) (hs : s.size ≤ 4611686018427387904) (w : World) :
    Calls Tryz.prog 172 #[.string s, .int .i64 a] w fun e w' => e = retD (0, ⟨#[]⟩, false, 131) ∧ Below w.heap.size w w' := by
  have hb0 := below_new1 w (.cells #[.int .i64 0, .string ⟨#[]⟩] 36)
  have hk0 : Blk (w.alloc (.cells #[.int .i64 0, .string ⟨#[]⟩] 36)) w.heap.size 36 #[.int .i64 0, .string ⟨#[]⟩] := Blk.new _ _ _
  have H0 : Hid (_ ∧ _) := ⟨hb0, hk0⟩
  have hc0 : (w.alloc (.cells #[.int .i64 0, .string ⟨#[]⟩] 36)).cell? ⟨w.heap.size, 0, none⟩ = some (.int .i64 0) := hk0.cell 0
  have hc1 : (w.alloc (.cells #[.int .i64 0, .string ⟨#[]⟩] 36)).cell? ⟨w.heap.size, 1, none⟩ = some (.string ⟨#[]⟩) := hk0.cell 1
  have f0 : (w.alloc (.cells #[.int .i64 0, .string ⟨#[]⟩] 36)).frozen? ⟨w.heap.size, 0, none⟩ = false := hk0.frozen 0
  have f1 : (w.alloc (.cells #[.int .i64 0, .string ⟨#[]⟩] 36)).frozen? ⟨w.heap.size, 1, none⟩ = false := hk0.frozen 1
  clear hb0 hk0
  by_cases h1 : a < 0
  · clear h
    go_enter Tryz.func172, Tryz.ntmps172
    go_wp2_with fail
    try simp only [Exit.inBlock, Exit.then]
    refine bodyPost_ret (res_row3 Tryz.results172 _ _ w.heap.size 36 #[.int .i64 0, .string ⟨#[]⟩] (0, 0) _ rfl H0.out.2 Tryz.underlying36 rfl (sizeLk.trans (by rfl))) rfl ?_
    exact ⟨rfl, H0.out.1⟩
  · have h2 : (s.size : Int) - 64 < a := by omega
    clear h
    go_enter Tryz.func172, Tryz.ntmps172
    go_wp2_with fail
    try simp only [Exit.inBlock, Exit.then]
    refine bodyPost_ret (res_row3 Tryz.results172 _ _ w.heap.size 36 #[.int .i64 0, .string ⟨#[]⟩] (0, 0) _ rfl H0.out.2 Tryz.underlying36 rfl (sizeLk.trans (by rfl))) rfl ?_
    exact ⟨rfl, H0.out.1⟩
set_option maxHeartbeats 4000000 in
theorem decode_fit (a : Nat) (h : a + 64 ≤ s.size) (hs : s.size ≤ 4611686018427387904) (t : ByteArray) (ht : s.extract a (a + 64) = t) (w : World) :
    Calls Tryz.prog 172 #[.string s, .int .i64 (a : Int)] w fun e w' => e = retD (if zT t = true then (0, ⟨#[]⟩, false, 0) else if decOk t = true then ((decI t : Int), decS t, true, 0) else (0, ⟨#[]⟩, false, 131)) ∧ Below w.heap.size w w' := by
  have h64 : t.size = 64 := by rw [← ht, ByteArray.size_extract]; omega
  have HTR : Hid (∀ w : World, Calls Tryz.prog 123 #[.string t, .string ⟨#[0]⟩] w fun e w' => e = .returned (.string ⟨(Lib.trimB t.data.toList 0).toArray⟩) ∧ Below w.heap.size w w') := trim_one t 0 (by decide) (by omega)
  have hze := trim_zero t
  generalize (⟨(Lib.trimB t.data.toList 0).toArray⟩ : ByteArray) = tr at HTR hze
  have HP : Hid (∀ w : World, Calls Tryz.prog 218 #[.string t] w fun e w' => e = .returned (.agg #[.int .i64 (decI t : Int), .string (decS t)]) ∧ Below w.heap.size w w') := parts_any t h64
  have HE : Hid (∀ w : World, Calls Tryz.prog 109 #[.agg #[.int .i64 (decI t : Int), .string (decS t)]] w fun e w' => e = .returned (.tuple #[.string (encT (decI t) (decS t)), .int .i64 (encE (decI t) (decS t))]) ∧ Below w.heap.size w w') := encode_any _ _
  have hok : decOk t = (decide (encE (decI t) (decS t) = 0) && (encT (decI t) (decS t)).toList == t.toList) := rfl
  generalize decOk t = ok at *
  generalize zT t = z at *
  generalize encE (decI t) (decS t) = ee at *
  generalize encT (decI t) (decS t) = et at *
  generalize decI t = di at *
  generalize decS t = ds at *
  have hb0 := below_new1 w (.cells #[.int .i64 0, .string ⟨#[]⟩] 36)
  have hk0 : Blk (w.alloc (.cells #[.int .i64 0, .string ⟨#[]⟩] 36)) w.heap.size 36 #[.int .i64 0, .string ⟨#[]⟩] := Blk.new _ _ _
  have H0 : Hid (_ ∧ _) := ⟨hb0, hk0⟩
  clear hb0 hk0
  have a1 : ¬ ((a : Int) < 0) := by omega
  have a2 : ¬ ((s.size : Int) - 64 < (a : Int)) := by omega
  have hw2 : IntKind.i64.wrap ((a : Int) + 64) = (a : Int) + 64 := wrap_small _ (by omega) (by omega)
  generalize hres : (if z = true then ((0 : Int), (⟨#[]⟩ : ByteArray), false, (0 : Int)) else if ok = true then ((di : Int), ds, true, 0) else (0, ⟨#[]⟩, false, 131)) = res
  have HRES : Hid ((if z = true then ((0 : Int), (⟨#[]⟩ : ByteArray), false, (0 : Int)) else if ok = true then ((di : Int), ds, true, 0) else (0, ⟨#[]⟩, false, 131)) = res) := hres
  clear hres
  go_enter Tryz.func172, Tryz.ntmps172
  go_wp2_with fail
  generalize w.alloc (.cells #[.int .i64 0, .string ⟨#[]⟩] 36) = w1 at H0 ⊢
  refine (HTR.out _).mono ?_
  intro e w2 hw2
  obtain ⟨he2, hb2⟩ := hw2
  subst he2
  have H2 : Hid (Below w.heap.size w w2 ∧ Blk w2 w.heap.size 36 #[.int .i64 0, .string ⟨#[]⟩]) := ⟨H0.out.1.trans (hb2.mono H0.out.1.size), H0.out.2.below hb2 H0.out.2.lt⟩
  clear hb2 H0
  cases z
  · simp only [Bool.false_eq_true, if_false] at HRES
    go_wp2_with fail
    refine (HP.out _).mono ?_
    intro e w3 hw3
    obtain ⟨he3, hb3⟩ := hw3
    subst he3
    have H3 : Hid (Below w.heap.size w w3 ∧ Blk w3 w.heap.size 36 #[.int .i64 0, .string ⟨#[]⟩]) := ⟨H2.out.1.trans (hb3.mono H2.out.1.size), H2.out.2.below hb3 H2.out.2.lt⟩
    clear hb3 H2
    go_wp2_with fail
    have H4 : Hid (Below w.heap.size w (w3.alloc (.cells #[.int .i64 (di : Int), .string ds] 36)) ∧ Blk (w3.alloc (.cells #[.int .i64 (di : Int), .string ds] 36)) w.heap.size 36 #[.int .i64 0, .string ⟨#[]⟩] ∧ Blk (w3.alloc (.cells #[.int .i64 (di : Int), .string ds] 36)) w3.heap.size 36 #[.int .i64 (di : Int), .string ds] ∧ w.heap.size < w3.heap.size) :=
      ⟨H3.out.1.alloc H3.out.1.size _, H3.out.2.alloc _, Blk.new _ _ _, H3.out.2.lt⟩
    clear H3
    generalize w3.alloc (.cells #[.int .i64 (di : Int), .string ds] 36) = w4 at H4 ⊢
    refine (HE.out _).mono ?_
    intro e w5 hw5
    obtain ⟨he5, hb5⟩ := hw5
    subst he5
    have H5 : Hid (Below w.heap.size w w5 ∧ Blk w5 w.heap.size 36 #[.int .i64 0, .string ⟨#[]⟩] ∧ Blk w5 w3.heap.size 36 #[.int .i64 (di : Int), .string ds] ∧ w.heap.size < w3.heap.size) :=
      ⟨H4.out.1.trans (hb5.mono H4.out.1.size), H4.out.2.1.below hb5 H4.out.2.1.lt, H4.out.2.2.1.below hb5 H4.out.2.2.1.lt, H4.out.2.2.2⟩
    clear hb5 H4
    by_cases q1 : ee = 0
    · have b1 : (ee != 0) = false := by rw [q1]; rfl
      cases q2 : (et.toList == t.toList)
      · obtain rfl : ok = false := by rw [hok, q1, q2]; rfl
        obtain rfl : (0, ⟨#[]⟩, false, 131) = res := HRES.out
        clear hok q1
        have c0 : w5.cell? ⟨w.heap.size, 0, none⟩ = some (.int .i64 0) := H5.out.2.1.cell 0
        have c1 : w5.cell? ⟨w.heap.size, 1, none⟩ = some (.string ⟨#[]⟩) := H5.out.2.1.cell 1
        have f0 : w5.frozen? ⟨w.heap.size, 0, none⟩ = false := H5.out.2.1.frozen 0
        have f1 : w5.frozen? ⟨w.heap.size, 1, none⟩ = false := H5.out.2.1.frozen 1
        go_wp2_with fail
        try simp only [Exit.inBlock, Exit.then]
        refine bodyPost_ret (res_row3 Tryz.results172 _ _ w.heap.size 36 #[.int .i64 0, .string ⟨#[]⟩] (0, 0) _ rfl ((H5.out.2.1.put 0 (.int .i64 0)).put 1 (.string ⟨#[]⟩)) Tryz.underlying36 rfl (sizeLk.trans (by rfl))) rfl ?_
        exact ⟨rfl, (H5.out.1.setCell (Nat.le_refl _) _).setCell (Nat.le_refl _) _⟩
      · obtain rfl : ok = true := by rw [hok, q1, q2]; rfl
        obtain rfl : ((di : Int), ds, true, 0) = res := HRES.out
        clear hok q1
        have c0 : w5.cell? ⟨w.heap.size, 0, none⟩ = some (.int .i64 0) := H5.out.2.1.cell 0
        have c1 : w5.cell? ⟨w.heap.size, 1, none⟩ = some (.string ⟨#[]⟩) := H5.out.2.1.cell 1
        have f0 : w5.frozen? ⟨w.heap.size, 0, none⟩ = false := H5.out.2.1.frozen 0
        have f1 : w5.frozen? ⟨w.heap.size, 1, none⟩ = false := H5.out.2.1.frozen 1
        have x0 : w5.cell? ⟨w3.heap.size, 0, none⟩ = some (.int .i64 (di : Int)) := H5.out.2.2.1.cell 0
        have x1 : w5.cell? ⟨w3.heap.size, 1, none⟩ = some (.string ds) := H5.out.2.2.1.cell 1
        go_wp2_with fail
        try simp only [Exit.inBlock, Exit.then]
        refine bodyPost_ret (res_row3 Tryz.results172 _ _ w.heap.size 36 #[.int .i64 (di : Int), .string ds] (0, 0) _ rfl ((H5.out.2.1.put 0 (.int .i64 (di : Int))).put 1 (.string ds)) Tryz.underlying36 rfl (sizeLk.trans (by rfl))) rfl ?_
        exact ⟨rfl, (H5.out.1.setCell (Nat.le_refl _) _).setCell (Nat.le_refl _) _⟩
    · have b1 : (ee != 0) = true := bne_iff_ne.2 q1
      obtain rfl : ok = false := by rw [hok, decide_eq_false q1]; rfl
      obtain rfl : (0, ⟨#[]⟩, false, 131) = res := HRES.out
      clear hok q1
      have c0 : w5.cell? ⟨w.heap.size, 0, none⟩ = some (.int .i64 0) := H5.out.2.1.cell 0
      have c1 : w5.cell? ⟨w.heap.size, 1, none⟩ = some (.string ⟨#[]⟩) := H5.out.2.1.cell 1
      have f0 : w5.frozen? ⟨w.heap.size, 0, none⟩ = false := H5.out.2.1.frozen 0
      have f1 : w5.frozen? ⟨w.heap.size, 1, none⟩ = false := H5.out.2.1.frozen 1
      go_wp2_with fail
      try simp only [Exit.inBlock, Exit.then]
      refine bodyPost_ret (res_row3 Tryz.results172 _ _ w.heap.size 36 #[.int .i64 0, .string ⟨#[]⟩] (0, 0) _ rfl ((H5.out.2.1.put 0 (.int .i64 0)).put 1 (.string ⟨#[]⟩)) Tryz.underlying36 rfl (sizeLk.trans (by rfl))) rfl ?_
      exact ⟨rfl, (H5.out.1.setCell (Nat.le_refl _) _).setCell (Nat.le_refl _) _⟩
  · obtain rfl : (0, ⟨#[]⟩, false, 0) = res := HRES.out
    have c0 : w2.cell? ⟨w.heap.size, 0, none⟩ = some (.int .i64 0) := H2.out.2.cell 0
    have c1 : w2.cell? ⟨w.heap.size, 1, none⟩ = some (.string ⟨#[]⟩) := H2.out.2.cell 1
    have f0 : w2.frozen? ⟨w.heap.size, 0, none⟩ = false := H2.out.2.frozen 0
    have f1 : w2.frozen? ⟨w.heap.size, 1, none⟩ = false := H2.out.2.frozen 1
    go_wp2_with fail
    try simp only [Exit.inBlock, Exit.then]
    refine bodyPost_ret (res_row3 Tryz.results172 _ _ w.heap.size 36 #[.int .i64 0, .string ⟨#[]⟩] (0, 0) _ rfl ((H2.out.2.put 0 (.int .i64 0)).put 1 (.string ⟨#[]⟩)) Tryz.underlying36 rfl (sizeLk.trans (by rfl))) rfl ?_
    exact ⟨rfl, (H2.out.1.setCell (Nat.le_refl _) _).setCell (Nat.le_refl _) _⟩
theorem decode_any (a : Int) (hs : s.size ≤ 4611686018427387904) (w : World) :
    Calls Tryz.prog 172 #[.string s, .int .i64 a] w fun e w' => e = retD (decV s a) ∧ Below w.heap.size w w' := by
  by_cases h : 0 ≤ a ∧ a ≤ (s.size : Int) - 64
  · obtain ⟨n, rfl⟩ : ∃ n : Nat, a = (n : Int) := ⟨a.toNat, by omega⟩
    unfold decV
    rw [if_pos h, Int.toNat_natCast]
    exact decode_fit s n (by omega) hs _ rfl w
  · unfold decV
    rw [if_neg h]
    exact decode_bad s a h hs w
end
end Go.Proofs.YtojnlmfahgeidaaGreatDoor
