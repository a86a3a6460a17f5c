/- Slices that the program made itself: what keeps them. No program in it but one type's size. -/
import Derived.Test.YtimjggkdpmgpjaaGreatDoorHOrders
import Derived.Test.YtimjggkdpmgpjaaGreatDoorHMath
import Derived.Test.YtimjggkdpmgpjaaGreatDoorHBytes
import Derived.BigQuiet
import Derived.Deep.QuietTactic
import Derived.Handy
import Derived.Lib.ConvBytes
import Derived.ArgAppend

namespace Go.Proofs.YtimjggkdpmgpjaaGreatDoor
set_option maxRecDepth 20000
open Go Go.RowKit
set_option linter.unusedVariables false
set_option linter.unusedSimpArgs false
/-- a number's bytes, the lowest first -/
def nb (x j : Nat) : Nat := x / 256 ^ j % 256
/-- an entry's bytes -/
def entF (i : Nat) (s : ByteArray) (j : Nat) : Nat :=
  if j < 4 then nb i j else if j < 6 then nb s.size (j - 4) else if j < 8 then 0 else if j < 8 + s.size then tbyte s (j - 8) else 0
theorem bytes32_nb (x : Nat) (w : World) : Calls Tryz.prog 78 #[.int .u32 (x : Int)] w fun e w' => e = .returned (.agg (va 4 (iv .u8 (nb x)))) ∧ Below w.heap.size w w' := by
  have h : va 4 (iv .u8 (nb x)) = #[.int .u8 ((x % 256 : Nat) : Int), .int .u8 ((x / 256 % 256 : Nat) : Int), .int .u8 ((x / 65536 % 256 : Nat) : Int), .int .u8 ((x / 16777216 % 256 : Nat) : Int)] := by
    show #[iv .u8 (nb x) 0, iv .u8 (nb x) 1, iv .u8 (nb x) 2, iv .u8 (nb x) 3] = _
    simp [iv, nb]
  rw [h]
  exact qbytes32_any x w
theorem bytes16_nb (x : Nat) (w : World) : Calls Tryz.prog 79 #[.int .u16 (x : Int)] w fun e w' => e = .returned (.agg (va 2 (iv .u8 (nb x)))) ∧ Below w.heap.size w w' := by
  have h : va 2 (iv .u8 (nb x)) = #[.int .u8 ((x % 256 : Nat) : Int), .int .u8 ((x / 256 % 256 : Nat) : Int)] := by
    show #[iv .u8 (nb x) 0, iv .u8 (nb x) 1] = _
    simp [iv, nb]
  rw [h]
  exact bytes16_any x w
theorem wrap_u32 (i : Nat) (h : i < 4294967296) : IntKind.u32.wrap (i : Int) = (i : Int) := by
  unfold IntKind.wrap
  simp only [IntKind.bits, IntKind.signed]
  have : ((i : Int)) % (2 ^ 32) = (i : Int) := by omega
  simp [this]
  omega
theorem wrap_u16 (i : Nat) (h : i < 65536) : IntKind.u16.wrap (i : Int) = (i : Int) := by
  unfold IntKind.wrap
  simp only [IntKind.bits, IntKind.signed]
  have : ((i : Int)) % (2 ^ 16) = (i : Int) := by omega
  simp [this]
  omega
theorem sizeB4 : (Tryz.prog.info? 192).map (·.size) = some 4 := by kernel_rfl
theorem sizeB2 : (Tryz.prog.info? 194).map (·.size) = some 2 := by kernel_rfl
theorem copy_blk {w : World} {ty : TypeId} {g o dLen dCap g2 n sCap N : Nat} {T T2 : TypeId} {p f : Nat → Nat} (hb : Blk w g T (va N (iv .u8 p))) (hb2 : Blk w g2 T2 (va n (iv .u8 f))) (hn : n ≤ dLen) (hfit : o + n ≤ N) :
    (Builtin.copy_ #[190, 190] ty #[.slice (some ⟨g, o, none⟩) dLen dCap, .slice (some ⟨g2, 0, none⟩) n sCap]).run Tryz.prog w = .ok (goInt n) (w.setRow g (va N (iv .u8 (putAt p o n f)))) := by
  have hl : (byL f n).length = n := byL_length f n
  have h := run_copy_row (P := Tryz.prog) w 190 190 ty 5 g o dLen dCap ⟨g2, 0, none⟩ n sCap _ T (byL f n) Tryz.underlying190 ksizeU8 hb (by rw [hl]; show n = min n dLen; omega)
    (fun j v hv => by
      have hj : j < n := by have := (List.getElem?_eq_some_iff.1 hv).1; rw [hl] at this; exact this
      rw [byL_at f n j hj] at hv
      cases hv
      rw [show (⟨g2, 0, none⟩ : Addr).add j = ⟨g2, j, none⟩ from by rcases j with _ | j <;> simp [Addr.add]]
      exact hb2.cv hj) (by rw [hl, va_size]; exact hfit) (mem_iv_one _ _ _)
  rw [hl] at h
  rw [h, ← splice_put N o n p f hfit]
  unfold splice
  rw [hl, List.append_assoc]
theorem zero_e64 (w : World) : (zeroValue 197).run Tryz.prog w = .ok (.agg (va 64 (iv .u8 fun _ => 0))) w := by
  have h : (Tryz.prog.info? 197).map (·.zero) = some (some (.agg (va 64 (iv .u8 fun _ => 0)))) := by kernel_rfl
  cases hq : Tryz.prog.info? 197 with
  | none => simp [hq] at h
  | some i =>
    have hz : i.zero = some (.agg (va 64 (iv .u8 fun _ => 0))) := by simpa [hq] using h
    simp [zeroValue, typeInfo, hq, hz]
theorem put_ent (i : Nat) (s : ByteArray) (j : Nat) : putAt (putAt (putAt (fun _ => 0) 0 4 (nb i)) 4 2 (nb s.size)) 8 s.size (tbyte s) j = entF i s j := by
  unfold putAt entF
  by_cases h0 : j < 4
  · rw [if_pos h0, if_neg (by omega), if_neg (by omega), if_pos (by omega), Nat.sub_zero]
  · by_cases h1 : j < 6
    · rw [if_neg h0, if_pos h1, if_neg (by omega), if_pos (by omega)]
    · rw [if_neg h0, if_neg h1]
      by_cases h2 : j < 8
      · rw [if_pos h2, if_neg (by omega), if_neg (by omega), if_neg (by omega)]
      · rw [if_neg h2]
        by_cases h3 : j < 8 + s.size
        · rw [if_pos h3, if_pos (by omega)]
        · rw [if_neg h3, if_neg (by omega), if_neg (by omega), if_neg (by omega)]
theorem gs_eq {l : Array Bool} {i n : Nat} (h : l.size = n) (hi : i < n) : (l.setIfInBounds i true).getD i false = true := by
  simp [Array.getD, h, hi]
theorem gs_ne {l : Array Bool} {i j : Nat} (h : i ≠ j) : (l.setIfInBounds i true).getD j false = l.getD j false := by
  rw [Array.getD_eq_getD_getElem?, Array.getD_eq_getD_getElem?, Array.getElem?_setIfInBounds, if_neg h]
abbrev lkV (i : Int) (s : ByteArray) : Value := .agg #[.int .i64 i, .string s]
/-- what has been done of the region with two calls and two boxes -/
def qencR (w : World) (i : Nat) (s : ByteArray) (l : Array Bool) (a : Act) (W : World) : Prop :=
  ∃ (x25 x30 x5 x6 : Value) (g5 g6 : Nat), a = ({ tmps := #[lkV (i : Int) s, Value.pointer (some ⟨w.heap.size, 0, none⟩), Value.string ⟨#[]⟩, Value.int .i64 0, Value.int .i64 0, x5, x6, undef, Value.pointer (some ⟨w.heap.size, 0, none⟩), Value.int .i64 (i : Int), Value.bool false, Value.bool false, Value.pointer (some ⟨w.heap.size, 0, none⟩), Value.int .i64 (i : Int), Value.bool false, Value.bool false, Value.pointer (some ⟨w.heap.size, 1, none⟩), Value.string s, Value.int .i64 0, Value.int .i64 0, Value.bool false, undef, Value.pointer (some ⟨w.heap.size, 0, none⟩), Value.int .i64 (i : Int), Value.int .u32 (i : Int), x25, Value.pointer (some ⟨w.heap.size, 1, none⟩), Value.string s, Value.int .i64 (s.size : Int), Value.int .u16 (s.size : Int), x30, undef, undef, undef, undef, undef, undef, undef, undef, undef, undef, undef, undef], defers := [] } : Act) ∧ Hid (l.size = 13 ∧ Blk W w.heap.size 54 #[.int .i64 (i : Int), .string s] ∧ Below w.heap.size w W ∧ (l.getD 3 false = true → x25 = .agg (va 4 (iv .u8 (nb i)))) ∧ (l.getD 8 false = true → x30 = .agg (va 2 (iv .u8 (nb s.size)))) ∧
    (l.getD 9 false = true → x5 = .pointer (some ⟨g5, 0, none⟩) ∧ w.heap.size < g5 ∧ Blk W g5 192 (va 4 (iv .u8 (if l.getD 11 false then nb i else fun _ => 0)))) ∧
    (l.getD 10 false = true → x6 = .pointer (some ⟨g6, 0, none⟩) ∧ w.heap.size < g6 ∧ Blk W g6 194 (va 2 (iv .u8 (if l.getD 12 false then nb s.size else fun _ => 0)))) ∧
    (l.getD 9 false = true → l.getD 10 false = true → g5 ≠ g6))
section
variable (s : ByteArray)
set_option maxHeartbeats 4000000 in
theorem encode_arg (i : Int) (hi : i < 1 ∨ 4096 < i) (w : World) :
    Calls Tryz.prog 49 #[lkV i s] w fun e w' => e = .returned (.tuple #[.string ⟨#[]⟩, .int .i64 1]) ∧ Below w.heap.size w w' := by
  have hb : Below w.heap.size w (w.alloc (.cells #[.int .i64 i, .string s] 54)) := below_new1 _ _
  have HB : Hid (Below w.heap.size w (w.alloc (.cells #[.int .i64 i, .string s] 54))) := hb
  clear hb
  by_cases h1 : i < 1
  · clear hi
    go_enter Tryz.func49, Tryz.ntmps49
    go_wp2_with fail
    go_ret2
    exact ⟨rfl, HB.out⟩
  · have h2 : 4096 < i := by omega
    clear hi
    go_enter Tryz.func49, Tryz.ntmps49
    go_wp2_with fail
    go_ret2
    exact ⟨rfl, HB.out⟩
set_option maxHeartbeats 4000000 in
theorem encode_name (i : Int) (h1 : 1 ≤ i) (h2 : i ≤ 4096) (hn : isName s.data.toList = false) (w : World) :
    Calls Tryz.prog 49 #[lkV i s] w fun e w' => e = .returned (.tuple #[.string ⟨#[]⟩, .int .i64 130]) ∧ Below w.heap.size w w' := by
  have HB : Hid (Below w.heap.size w (w.alloc (.cells #[.int .i64 i, .string s] 54))) := below_new1 _ _
  have HC : Hid (∀ w : World, Calls Tryz.prog 62 #[.string s] w fun e w' => e = .returned (.int .i64 130) ∧ Below w.heap.size w w') := fun w => by
    have := qcheck_any s w
    rw [show nameE s.data.toList = 130 from by unfold nameE; rw [hn]; rfl] at this
    exact this
  go_enter Tryz.func49, Tryz.ntmps49
  go_wp2_with fail
  refine (HC.out _).mono ?_
  intro e w2 hw2
  obtain ⟨he2, hw2⟩ := hw2
  subst he2
  have HB2 : Hid (Below w.heap.size w w2) := HB.out.trans (hw2.mono HB.out.size)
  clear hw2
  go_wp2_with fail
  go_ret2
  exact ⟨rfl, HB2.out⟩
set_option maxHeartbeats 4000000 in
theorem encode_ok (i : Nat) (h1 : 1 ≤ i) (h2 : i ≤ 4096) (hn : isName s.data.toList = true) (w : World) :
    Calls Tryz.prog 49 #[lkV (i : Int) s] w fun e w' => e = .returned (.tuple #[.string (strN (entF i s) 64), .int .i64 0]) ∧ Below w.heap.size w w' := by
  have h56 : s.size ≤ 56 := by rw [Lib.size_eq]; exact (isName_len hn).2
  have HB : Hid (Below w.heap.size w (w.alloc (.cells #[.int .i64 (i : Int), .string s] 54))) := below_new1 _ _
  have HBX : Hid (Blk (w.alloc (.cells #[.int .i64 (i : Int), .string s] 54)) w.heap.size 54 #[.int .i64 (i : Int), .string s]) := Blk.new _ _ _
  have HC : Hid (∀ w : World, Calls Tryz.prog 62 #[.string s] w fun e w' => e = .returned (.int .i64 0) ∧ Below w.heap.size w w') := fun w => by
    have := qcheck_any s w
    rw [show nameE s.data.toList = 0 from by unfold nameE; rw [hn]; rfl] at this
    exact this
  clear hn
  have i1 : ¬ ((i : Int) < 1) := by omega
  have i2 : ¬ ((4096 : Int) < (i : Int)) := by omega
  have hw1 : IntKind.u32.wrap (i : Int) = (i : Int) := wrap_u32 i (by omega)
  have hw2 : IntKind.u16.wrap (s.size : Int) = (s.size : Int) := wrap_u16 s.size (by omega)
  go_enter Tryz.func49, Tryz.ntmps49
  go_wp2_with fail
  refine (HC.out _).mono ?_
  intro e w2 hw2
  obtain ⟨he2, hw2⟩ := hw2
  subst he2
  have HB2 : Hid (Below w.heap.size w w2 ∧ Blk w2 w.heap.size 54 #[.int .i64 (i : Int), .string s]) := ⟨HB.out.trans (hw2.mono HB.out.size), HBX.out.below hw2 (by simp)⟩
  clear hw2 HB HBX HC
  go_wp2_with fail
  refine wp_region_mach (fun W => Blk W w.heap.size 54 #[.int .i64 (i : Int), .string s]) (fun i l => match i with | 3 => true | 8 => true | 9 => !l.getD 9 false && !l.getD 11 false | 10 => !l.getD 10 false && !l.getD 12 false | 11 => l.getD 3 false && l.getD 9 false | 12 => l.getD 8 false && l.getD 10 false | _ => false)
    (fun l => l.getD 3 false && l.getD 8 false && l.getD 9 false && l.getD 10 false && l.getD 11 false && l.getD 12 false) [0, 1, 2, 4, 5, 6, 7] 6 (qencR w i s) (by kernel_rfl) (by kernel_rfl) HB2.out.2.drew ?_ ?_ ?_
  · refine ⟨_, Value.pointer (some ⟨w.heap.size, 0, none⟩), rfl, Or.inl ⟨by rfl, fun W hW => by go_simp⟩, ?_⟩
    simp only [Act.put, List.setIfInBounds_toArray, List.set_cons_zero, List.set_cons_succ]
    refine ⟨_, Value.int .i64 (i : Int), rfl, Or.inl ⟨by rfl, fun W hW => by have hW1 : W.cell? ⟨w.heap.size, 0, none⟩ = some (.int .i64 (i : Int)) := hW.cell 0; go_simp⟩, ?_⟩
    simp only [Act.put, List.setIfInBounds_toArray, List.set_cons_zero, List.set_cons_succ]
    refine ⟨_, Value.int .u32 (i : Int), rfl, Or.inl ⟨by rfl, fun W hW => by go_simp⟩, ?_⟩
    simp only [Act.put, List.setIfInBounds_toArray, List.set_cons_zero, List.set_cons_succ]
    refine ⟨_, Value.pointer (some ⟨w.heap.size, 1, none⟩), rfl, Or.inl ⟨by rfl, fun W hW => by go_simp⟩, ?_⟩
    simp only [Act.put, List.setIfInBounds_toArray, List.set_cons_zero, List.set_cons_succ]
    refine ⟨_, Value.string s, rfl, Or.inl ⟨by rfl, fun W hW => by have hW1 : W.cell? ⟨w.heap.size, 1, none⟩ = some (.string s) := hW.cell 1; go_simp⟩, ?_⟩
    simp only [Act.put, List.setIfInBounds_toArray, List.set_cons_zero, List.set_cons_succ]
    refine ⟨_, Value.int .i64 (s.size : Int), rfl, Or.inl ⟨by rfl, fun W hW => by go_simp⟩, ?_⟩
    simp only [Act.put, List.setIfInBounds_toArray, List.set_cons_zero, List.set_cons_succ]
    refine ⟨_, Value.int .u16 (s.size : Int), rfl, Or.inl ⟨by rfl, fun W hW => by go_simp⟩, ?_⟩
    simp only [Act.put, List.setIfInBounds_toArray, List.set_cons_zero, List.set_cons_succ]
    exact ⟨undef, undef, undef, undef, 0, 0, rfl, rfl, HB2.out.2.drew, HB2.out.1.drew, fun h => absurd (show false = true from h) (by decide), fun h => absurd (show false = true from h) (by decide), fun h => absurd (show false = true from h) (by decide), fun h => absurd (show false = true from h) (by decide), fun h => absurd (show false = true from h) (by decide)⟩
  · intro j l a W hp hR
    obtain ⟨x25, x30, x5, x6, g5, g6, rfl, H⟩ := hR
    have hj : j = 3 ∨ j = 8 ∨ j = 9 ∨ j = 10 ∨ j = 11 ∨ j = 12 := by
      split at hp <;> simp_all
    obtain ⟨hsz, hbox, hbel, h3, h8, h9, h10, hne⟩ := H.out
    have HS : Hid (W.heap.size = W.heap.size) := rfl
    clear H
    rcases hj with rfl | rfl | rfl | rfl | rfl | rfl
    · clear hp
      simp only [List.cons_append, List.nil_append, List.append_nil, List.filterMap_cons, List.filterMap_nil, List.getElem?_toArray, List.getElem?_cons_zero, List.getElem?_cons_succ]
      go_wp2_with fail
      refine (bytes32_nb i _).mono ?_
      intro e w3 hw3
      obtain ⟨he3, hb3⟩ := hw3
      subst he3
      have HX : Hid (Blk w3 w.heap.size 54 #[.int .i64 (i : Int), .string s]) := hbox.below hb3 hbox.lt
      have HR : Hid (_ ∧ _ ∧ _ ∧ _ ∧ _ ∧ _) := ⟨hsz, hbel.trans (hb3.mono hbel.size), h8, fun h => (⟨(h9 h).1, (h9 h).2.1, (h9 h).2.2.below hb3 (h9 h).2.2.lt⟩ : _ ∧ _ ∧ Blk w3 g5 _ _), fun h => (⟨(h10 h).1, (h10 h).2.1, (h10 h).2.2.below hb3 (h10 h).2.2.lt⟩ : _ ∧ _ ∧ Blk w3 g6 _ _), hne⟩
      clear hbox hbel h3 h8 h9 h10 hne hb3
      go_wp2_with fail
      refine ⟨rfl, HX.out, _, x30, x5, x6, g5, g6, rfl, ?_⟩
      obtain ⟨hsz, hbel, h8, h9, h10, hne⟩ := HR.out
      refine ⟨by simpa using hsz, HX.out, hbel, fun _ => rfl, ?_, ?_, ?_, ?_⟩
      · rw [gs_ne (by decide)]; exact h8
      · rw [gs_ne (by decide), gs_ne (by decide)]; exact h9
      · rw [gs_ne (by decide), gs_ne (by decide)]; exact h10
      · rw [gs_ne (by decide), gs_ne (by decide)]; exact hne
    · clear hp
      simp only [List.cons_append, List.nil_append, List.append_nil, List.filterMap_cons, List.filterMap_nil, List.getElem?_toArray, List.getElem?_cons_zero, List.getElem?_cons_succ]
      go_wp2_with fail
      refine (bytes16_nb s.size _).mono ?_
      intro e w3 hw3
      obtain ⟨he3, hb3⟩ := hw3
      subst he3
      have HX : Hid (Blk w3 w.heap.size 54 #[.int .i64 (i : Int), .string s]) := hbox.below hb3 hbox.lt
      have HR : Hid (_ ∧ _ ∧ _ ∧ _ ∧ _ ∧ _) := ⟨hsz, hbel.trans (hb3.mono hbel.size), h3, fun h => (⟨(h9 h).1, (h9 h).2.1, (h9 h).2.2.below hb3 (h9 h).2.2.lt⟩ : _ ∧ _ ∧ Blk w3 g5 _ _), fun h => (⟨(h10 h).1, (h10 h).2.1, (h10 h).2.2.below hb3 (h10 h).2.2.lt⟩ : _ ∧ _ ∧ Blk w3 g6 _ _), hne⟩
      clear hbox hbel h3 h8 h9 h10 hne hb3
      go_wp2_with fail
      refine ⟨rfl, HX.out, x25, _, x5, x6, g5, g6, rfl, ?_⟩
      obtain ⟨hsz, hbel, h3, h9, h10, hne⟩ := HR.out
      refine ⟨by simpa using hsz, HX.out, hbel, ?_, fun _ => rfl, ?_, ?_, ?_⟩
      · rw [gs_ne (by decide)]; exact h3
      · rw [gs_ne (by decide), gs_ne (by decide)]; exact h9
      · rw [gs_ne (by decide), gs_ne (by decide)]; exact h10
      · rw [gs_ne (by decide), gs_ne (by decide)]; exact hne
    · simp only [Bool.and_eq_true, Bool.not_eq_true'] at hp
      have hp11 := hp.2
      simp only [List.cons_append, List.nil_append, List.append_nil, List.filterMap_cons, List.filterMap_nil, List.getElem?_toArray, List.getElem?_cons_zero, List.getElem?_cons_succ]
      go_wp2_with fail
      refine ⟨rfl, hbox.alloc _, x25, x30, _, x6, W.heap.size, g6, rfl, ?_⟩
      refine ⟨by simpa using hsz, hbox.alloc _, hbel.alloc hbel.size _, ?_, ?_, fun _ => ⟨rfl, by have := hbox.lt; omega, by rw [gs_ne (by decide), hp11]; exact Blk.new _ _ _⟩, ?_, fun _ h => by rw [gs_ne (by decide)] at h; have := (h10 h).2.2.lt; omega⟩
      · rw [gs_ne (by decide)]; exact h3
      · rw [gs_ne (by decide)]; exact h8
      · rw [gs_ne (by decide), gs_ne (by decide)]; exact fun h => ⟨(h10 h).1, (h10 h).2.1, (h10 h).2.2.alloc _⟩
    · simp only [Bool.and_eq_true, Bool.not_eq_true'] at hp
      have hp11 := hp.2
      simp only [List.cons_append, List.nil_append, List.append_nil, List.filterMap_cons, List.filterMap_nil, List.getElem?_toArray, List.getElem?_cons_zero, List.getElem?_cons_succ]
      go_wp2_with fail
      refine ⟨rfl, hbox.alloc _, x25, x30, x5, _, g5, W.heap.size, rfl, ?_⟩
      refine ⟨by simpa using hsz, hbox.alloc _, hbel.alloc hbel.size _, ?_, ?_, ?_, fun _ => ⟨rfl, by have := hbox.lt; omega, by rw [gs_ne (by decide), hp11]; exact Blk.new _ _ _⟩, fun h _ => by rw [gs_ne (by decide)] at h; have := (h9 h).2.2.lt; omega⟩
      · rw [gs_ne (by decide)]; exact h3
      · rw [gs_ne (by decide)]; exact h8
      · rw [gs_ne (by decide), gs_ne (by decide)]; exact fun h => ⟨(h9 h).1, (h9 h).2.1, (h9 h).2.2.alloc _⟩
    · simp only [Bool.and_eq_true] at hp
      obtain rfl := h3 hp.1
      obtain ⟨rfl, hgl, hblk⟩ := h9 hp.2
      simp only [List.cons_append, List.nil_append, List.append_nil, List.filterMap_cons, List.filterMap_nil, List.getElem?_toArray, List.getElem?_cons_zero, List.getElem?_cons_succ]
      (refine wpList_store_row (by rfl) 192 _ _ (by rfl) (g5) (va 4 (iv .u8 (nb i))) (by rfl) (by rfl) 192 _ hblk (sizeB4.trans (by rw [va_size])) (by simp only [va_size]) (iv_one _ _ _) ?_; simp only [Act.put, List.setIfInBounds_toArray, List.set_cons_zero, List.set_cons_succ])
      refine ⟨rfl, hbox.other _ (by omega), _, x30, _, x6, g5, g6, rfl, ?_⟩
      refine ⟨by simpa using hsz, hbox.other _ (by omega), below_setRow hbel (by omega) _, fun _ => rfl, fun h => by rw [gs_ne (by decide)] at h; exact h8 h, fun _ => ⟨rfl, hgl, by rw [gs_eq hsz (by decide)]; exact hblk.set _⟩, fun h => by rw [gs_ne (by decide)] at h; rw [gs_ne (by decide)]; exact ⟨(h10 h).1, (h10 h).2.1, (h10 h).2.2.other _ (fun e => (hne hp.2 h) e.symm)⟩, fun h h' => by rw [gs_ne (by decide)] at h h'; exact hne h h'⟩
    · simp only [Bool.and_eq_true] at hp
      obtain rfl := h8 hp.1
      obtain ⟨rfl, hgl, hblk⟩ := h10 hp.2
      simp only [List.cons_append, List.nil_append, List.append_nil, List.filterMap_cons, List.filterMap_nil, List.getElem?_toArray, List.getElem?_cons_zero, List.getElem?_cons_succ]
      (refine wpList_store_row (by rfl) 194 _ _ (by rfl) (g6) (va 2 (iv .u8 (nb s.size))) (by rfl) (by rfl) 194 _ hblk (sizeB2.trans (by rw [va_size])) (by simp only [va_size]) (iv_one _ _ _) ?_; simp only [Act.put, List.setIfInBounds_toArray, List.set_cons_zero, List.set_cons_succ])
      refine ⟨rfl, hbox.other _ (by omega), x25, _, x5, _, g5, g6, rfl, ?_⟩
      refine ⟨by simpa using hsz, hbox.other _ (by omega), below_setRow hbel (by omega) _, fun h => by rw [gs_ne (by decide)] at h; exact h3 h, fun _ => rfl, fun h => by rw [gs_ne (by decide)] at h; rw [gs_ne (by decide)]; exact ⟨(h9 h).1, (h9 h).2.1, (h9 h).2.2.other _ (fun e => (hne h hp.2) e)⟩, fun _ => ⟨rfl, hgl, by rw [gs_eq hsz (by decide)]; exact hblk.set _⟩, fun h h' => by rw [gs_ne (by decide)] at h h'; exact hne h h'⟩
  · intro l a W hp hR
    obtain ⟨x25, x30, x5, x6, g5, g6, rfl, H⟩ := hR
    simp only [Bool.and_eq_true] at hp
    obtain ⟨⟨⟨⟨⟨p3, p8⟩, p9⟩, p10⟩, p11⟩, p12⟩ := hp
    obtain ⟨hsz, hbox, hbel, h3, h8, h9, h10, hne⟩ := H.out
    clear H
    obtain ⟨rfl, hg5, hk5⟩ := h9 p9
    obtain ⟨rfl, hg6, hk6⟩ := h10 p10
    have hn := hne p9 p10
    rw [p11, if_pos rfl] at hk5
    rw [p12, if_pos rfl] at hk6
    obtain rfl := h3 p3
    obtain rfl := h8 p8
    refine ⟨rfl, ?_⟩
    have HZ : Hid (_ ∧ _ ∧ _ ∧ _) := ⟨hbox, hbel, hk5, hk6⟩
    clear h3 h8 h9 h10 hne p3 p8 p9 p10 p11 p12 hsz hbox hbel hk5 hk6 l
    have HZ2 : Hid (Blk (W.alloc (.cells (va 64 (iv .u8 fun _ => 0)) 197)) W.heap.size 197 (va 64 (iv .u8 fun _ => 0)) ∧ Blk (W.alloc (.cells (va 64 (iv .u8 fun _ => 0)) 197)) w.heap.size 54 #[.int .i64 (i : Int), .string s] ∧ Below w.heap.size w (W.alloc (.cells (va 64 (iv .u8 fun _ => 0)) 197)) ∧ Blk (W.alloc (.cells (va 64 (iv .u8 fun _ => 0)) 197)) g5 192 (va 4 (iv .u8 (nb i))) ∧ Blk (W.alloc (.cells (va 64 (iv .u8 fun _ => 0)) 197)) g6 194 (va 2 (iv .u8 (nb s.size))) ∧ w.heap.size < W.heap.size ∧ g5 < W.heap.size ∧ g6 < W.heap.size) :=
      ⟨Blk.new _ _ _, HZ.out.1.alloc _, HZ.out.2.1.alloc HZ.out.2.1.size _, HZ.out.2.2.1.alloc _, HZ.out.2.2.2.alloc _, HZ.out.1.lt, HZ.out.2.2.1.lt, HZ.out.2.2.2.lt⟩
    have hz := zero_e64
    go_wp2_with fail
    generalize W.alloc (.cells (va 64 (iv .u8 fun _ => 0)) 197) = W7 at HZ2 ⊢
    generalize W.heap.size = g7 at HZ2 ⊢
    clear hz HZ
    have h7 : w.heap.size < g7 ∧ g5 < g7 ∧ g6 < g7 := HZ2.out.2.2.2.2.2
    have hc1 := fun ty => copy_blk (ty := ty) (o := 0) (dLen := 4) (dCap := 64) (sCap := 4) HZ2.out.1.drew HZ2.out.2.2.2.1.drew (by decide) (by decide)
    have HZ3 : Hid (_ ∧ _ ∧ _ ∧ _) := ⟨HZ2.out.1.drew.set (va 64 (iv .u8 (putAt (fun _ => 0) 0 4 (nb i)))), HZ2.out.2.1.drew.other (g := g7) (va 64 (iv .u8 (putAt (fun _ => 0) 0 4 (nb i)))) (by omega), HZ2.out.2.2.2.2.1.drew.other (g := g7) (va 64 (iv .u8 (putAt (fun _ => 0) 0 4 (nb i)))) (by omega), below_setRow HZ2.out.2.2.1.drew (Nat.le_of_lt h7.1) (va 64 (iv .u8 (putAt (fun _ => 0) 0 4 (nb i))))⟩
    go_region
    generalize W7.drew.setRow g7 (va 64 (iv .u8 (putAt (fun _ => 0) 0 4 (nb i)))) = W8 at HZ3 ⊢
    clear hc1 HZ2
    go_wp2_with fail
    have hc2 := fun ty => copy_blk (ty := ty) (o := 4) (dLen := 2) (dCap := 60) (sCap := 2) HZ3.out.1.drew HZ3.out.2.2.1.drew (by decide) (by decide)
    have HF : ∀ j, j < 64 → putAt (putAt (putAt (fun _ => 0) 0 4 (nb i)) 4 2 (nb s.size)) 8 s.size (tbyte s) j = entF i s j := fun j hj => put_ent i s j
    generalize putAt (fun _ => 0) 0 4 (nb i) = P1 at *
    have HZ4 : Hid (_ ∧ _ ∧ _) := ⟨HZ3.out.1.drew.set (va 64 (iv .u8 (putAt P1 4 2 (nb s.size)))), HZ3.out.2.1.drew.other (g := g7) (va 64 (iv .u8 (putAt P1 4 2 (nb s.size)))) (by omega), below_setRow HZ3.out.2.2.2.drew (Nat.le_of_lt h7.1) (va 64 (iv .u8 (putAt P1 4 2 (nb s.size))))⟩
    go_region
    generalize W8.drew.setRow g7 (va 64 (iv .u8 (putAt P1 4 2 (nb s.size)))) = W9 at HZ4 ⊢
    clear hc2 HZ3
    go_wp2_with fail
    have hc3 := fun ty => run_copy_text (P := Tryz.prog) W9.drew 190 9 ty 5 g7 8 56 56 s _ 197 s.size Tryz.underlying190 ksizeU8 HZ4.out.1.drew (by show _ = min _ _; omega) (by rw [va_size]; omega)
    generalize HP2 : putAt P1 4 2 (nb s.size) = P2 at *
    have hcell : W9.cell? ⟨w.heap.size, 1, none⟩ = some (.string s) := HZ4.out.2.1.cell 1
    have hcell2 : W9.drew.cell? ⟨w.heap.size, 1, none⟩ = some (.string s) := hcell
    simp only [splice_put 64 8 s.size P2 (tbyte s) (by omega)] at hc3
    have HZ5 : Hid (_ ∧ _) := ⟨HZ4.out.1.drew.set (va 64 (iv .u8 (putAt P2 8 s.size (tbyte s)))), below_setRow HZ4.out.2.2.drew (Nat.le_of_lt h7.1) (va 64 (iv .u8 (putAt P2 8 s.size (tbyte s))))⟩
    go_region
    generalize W9.drew.setRow g7 (va 64 (iv .u8 (putAt P2 8 s.size (tbyte s)))) = W10 at HZ5 ⊢
    clear hc3 hcell hcell2 HZ4
    have hr := run_bytes_text (P := Tryz.prog) W10 190 5 9 Tryz.underlying190 Tryz.underlying5 Tryz.underlying9 HZ5.out.1 0 64 64 (by omega)
    have HE : Hid (strN (fun j => putAt P2 8 s.size (tbyte s) (0 + j)) 64 = strN (entF i s) 64) := strN_congr fun j hj => by
      rw [Nat.zero_add]
      exact HF j hj
    generalize strN (fun j => putAt P2 8 s.size (tbyte s) (0 + j)) 64 = tx at hr HE
    go_wp2_with fail
    go_ret2
    exact ⟨by rw [← HE.out]; rfl, HZ5.out.2⟩
end
end Go.Proofs.YtimjggkdpmgpjaaGreatDoor

namespace Go.Proofs.YtimjggkdpmgpjaaGreatDoor
open Go.RowKit

set_option maxHeartbeats 1000000 in
theorem qrefBytes_own (n k : Nat) (hk : k ≤ 8) (hn : n < 18446744073709551616) (w : World) :
    Calls Tryz.prog 77 #[.int .u64 (n : Int), .int .i64 (k : Int)] w fun e w' => ∃ v, e = .returned v ∧ w'.ownsRow w.heap.size 5 1 v k ((digs n k).map (Value.int .u8)) ∧ Below w.heap.size w w' := by
  obtain ⟨i0, hi, hz0, hz1, hz2⟩ := info_parts Tryz.info5
  go_enter Tryz.func77, Tryz.ntmps77
  go_wp2
  go_loopw [0, 5, 6] (fun m v i wr => ∃ j : Nat, j ≤ k ∧ i = .int .i64 j ∧ m = .int .u64 ((n / 256 ^ j : Nat) : Int) ∧ wr.ownsRow w.heap.size 5 1 v j ((digs n j).map (Value.int .u8)) ∧ Below w.heap.size w wr) (fun _ _ i _ => k - (intOf i).toNat)
  case atStart =>
    refine ⟨0, by omega, rfl, by simp, ?_, (Below.refl _ _).alloc (Nat.le_refl _) _⟩
    exact World.ownsRow_lit w #[] 0 (Nat.le_refl _) (by decide) rfl
  case round =>
    obtain ⟨j, hj, rfl, rfl, hown, hbel⟩ := hrel
    by_cases hlt : j < k
    · have hv := hown.lt
      have hqn : n / 256 ^ j ≤ n := Nat.div_le_self _ _
      have HD := digs_succ n j
      have HQ : n / 256 ^ (j + 1) = n / 256 ^ j / 256 := by rw [Nat.pow_succ, Nat.div_div_eq_div_mul]
      generalize hq : n / 256 ^ j = q at *
      have HD' : Hid (digs n (j + 1) = digs n j ++ [((q % 256 : Nat) : Int)]) := HD
      have HQ' : Hid (n / 256 ^ (j + 1) = q / 256) := HQ
      clear HD HQ hq
      go_wp2_with (first
        | (at_builtin; refine wpList_append_own _ rfl _ _ 190 rfl w.heap.size 5 i0 (.int .u8 0) 1 1 Tryz.underlying190 hi hz0 hz1 hz2 rfl (by decide) _ _ _ rfl (hown.alloc _) ⟨wr.heap.size, 0, none⟩ 1 1 [.int .u8 ((q : Int) % 256)] rfl rfl (cell_one_new _ _ _) (fun x hx => by simp at hx; subst hx; rfl) (by unfold maxLen; omega) (by omega) (by have := hbel.size; simp; omega) ?_)
        | go_in)
      intro v' w1 hown' hgrow _
      have hb1 : Below w.heap.size w w1 := (hbel.alloc (by have := hbel.size; omega) _).grown hgrow (by have := hbel.size; simp; omega) (fun k hk => (hv k hk).1)
      clear hown hv hgrow hbel
      go_wp2
      go_roundw
      case rel =>
        refine ⟨j + 1, by omega, by go_num, ?_, ?_, hb1⟩
        · rw [HQ'.out]; simp
        · rw [HD'.out]; simpa using hown'
      case measure => simp [intOf]; omega
    · go_wp2
      go_ret
      have : j = k := by omega
      subst this
      exact ⟨_, rfl, hown, hbel⟩

theorem refBytes_any (n k : Nat) (hk0 : 1 ≤ k) (hk : k ≤ 8) (hn : n < 18446744073709551616) (w : World) :
    Calls Tryz.prog 77 #[.int .u64 (n : Int), .int .i64 (k : Int)] w fun e w' => ∃ g c, e = .returned (.slice (some ⟨g, 0, none⟩) k c) ∧ w.heap.size ≤ g ∧ g < w'.heap.size ∧
      (∀ i, i < k → w'.cell? ⟨g, i, none⟩ = some (.int .u8 ((digs n k).getD i 0))) ∧ Below w.heap.size w w' := by
  refine (qrefBytes_own n k hk hn w).mono ?_
  rintro e w' ⟨v, rfl, hown, hb⟩
  have hl := hown.lt
  rcases hown.2 with ⟨_, h0⟩ | ⟨g, cap, cur, rfl, h1, h2, h3, h4, h5, h6⟩
  · omega
  · refine ⟨g, cap, rfl, h1, (hl g rfl).2, ?_, hb⟩
    intro i hi
    rw [hown.cellAt i (by omega)]
    simp [List.getD, digs_length, hi]


end Go.Proofs.YtimjggkdpmgpjaaGreatDoor

namespace Go.Proofs.YtimjggkdpmgpjaaGreatDoor
open Go Go.RowKit
set_option linter.unusedVariables false

theorem kown_mono {w : World} {B B' e size n : Nat} {v : Value} {xs : List Value} (h : w.ownsRow B e size v n xs) (hB : B' ≤ B) : w.ownsRow B' e size v n xs :=
  ⟨h.1, h.2.imp id fun ⟨g, cap, cur, a, b, r⟩ => ⟨g, cap, cur, a, Nat.le_trans hB b, r⟩⟩
theorem kown_form {w : World} {B e size n : Nat} {v : Value} {xs : List Value} (h : w.ownsRow B e size v n xs) (hn : 0 < n) : ∃ g cap, v = .slice (some ⟨g, 0, none⟩) n cap ∧ B ≤ g ∧ g < w.heap.size := by
  rcases h.2 with ⟨_, h0⟩ | ⟨g, cap, cur, rfl, hb, hg, _⟩
  · omega
  · exact ⟨g, cap, rfl, hb, (Array.getElem?_eq_some_iff.1 hg).1⟩
theorem kown_slice {w : World} {B e size n : Nat} {v : Value} {xs : List Value} (h : w.ownsRow B e size v n xs) : ∃ a cap, v = .slice a n cap := by
  rcases h.2 with ⟨rfl, rfl⟩ | ⟨g, cap, cur, rfl, hb, hg, _⟩
  · exact ⟨none, 0, rfl⟩
  · exact ⟨_, cap, rfl⟩
theorem kown_below {w w' : World} {B e size n : Nat} {v : Value} {xs : List Value} (h : w.ownsRow B e size v n xs) (hb : Below w.heap.size w w') : w'.ownsRow B e size v n xs := by
  refine ⟨h.1, ?_⟩
  rcases h.2 with hn | ⟨g, cap, cur, rfl, hg, hgg, rest⟩
  · exact .inl hn
  · exact .inr ⟨g, cap, cur, rfl, hg, (hb.block g (Array.getElem?_eq_some_iff.1 hgg).1).trans hgg, rest⟩
theorem kown_kept {w w' : World} {B e size n : Nat} {v : Value} {xs : List Value} (h : w.ownsRow B e size v n xs) (hk : ∀ k, B ≤ k → v.ownBlock = some k → w'.heap[k]? = w.heap[k]?) : w'.ownsRow B e size v n xs := by
  refine ⟨h.1, ?_⟩
  rcases h.2 with hn | ⟨g, cap, cur, rfl, hg, hgg, rest⟩
  · exact .inl hn
  · exact .inr ⟨g, cap, cur, rfl, hg, (hk g hg rfl).trans hgg, rest⟩
theorem kown_empty {w : World} {B e size g : Nat} (h : Blk w g e #[]) (hB : B ≤ g) : w.ownsRow B e size (.slice (some ⟨g, 0, none⟩) 0 0) 0 [] :=
  ⟨by simp, .inr ⟨g, 0, #[], rfl, hB, h, Nat.le_refl _, by unfold maxLen; omega, by simp, by simp⟩⟩
end Go.Proofs.YtimjggkdpmgpjaaGreatDoor
