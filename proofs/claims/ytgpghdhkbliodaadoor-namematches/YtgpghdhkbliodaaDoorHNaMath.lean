
/- Patterns with ? and *: what a text is, as plain lists of bytes: what the program keeps in each round, and the rows of the document. -/
import Derived.Test.YtgpghdhkbliodaaDoorHSegs
import Derived.Test.YtgpghdhkbliodaaDoorHBytes
import Derived.BigQuiet
import Derived.Deep.QuietTactic
import Derived.Handy

namespace Go.Proofs.YtgpghdhkbliodaaDoor
set_option maxRecDepth 20000
open Go Go.RowKit
set_option linter.unusedVariables false
set_option linter.unusedSimpArgs false
/-- a number's bytes, the lowest first -/
def nb (x j : Nat) : Nat := x / 256 ^ j % 256
/-- an entry's bytes -/
def entF (i : Nat) (s : ByteArray) (j : Nat) : Nat :=
  if j < 4 then nb i j else if j < 6 then nb s.size (j - 4) else if j < 8 then 0 else if j < 8 + s.size then tbyte s (j - 8) else 0
theorem bytes32_nb (x : Nat) (w : World) : Calls Tryd.prog 24 #[.int .u32 (x : Int)] w fun e w' => e = .returned (.agg (va 4 (iv .u8 (nb x)))) ∧ Below w.heap.size w w' := by
  have h : va 4 (iv .u8 (nb x)) = #[.int .u8 ((x % 256 : Nat) : Int), .int .u8 ((x / 256 % 256 : Nat) : Int), .int .u8 ((x / 65536 % 256 : Nat) : Int), .int .u8 ((x / 16777216 % 256 : Nat) : Int)] := by
    show #[iv .u8 (nb x) 0, iv .u8 (nb x) 1, iv .u8 (nb x) 2, iv .u8 (nb x) 3] = _
    simp [iv, nb]
  rw [h]
  exact bytes32_any x w
theorem bytes16_nb (x : Nat) (w : World) : Calls Tryd.prog 25 #[.int .u16 (x : Int)] w fun e w' => e = .returned (.agg (va 2 (iv .u8 (nb x)))) ∧ Below w.heap.size w w' := by
  have h : va 2 (iv .u8 (nb x)) = #[.int .u8 ((x % 256 : Nat) : Int), .int .u8 ((x / 256 % 256 : Nat) : Int)] := by
    show #[iv .u8 (nb x) 0, iv .u8 (nb x) 1] = _
    simp [iv, nb]
  rw [h]
  exact bytes16_any x w
theorem wrap_u32 (i : Nat) (h : i < 4294967296) : IntKind.u32.wrap (i : Int) = (i : Int) := by
  unfold IntKind.wrap
  simp only [IntKind.bits, IntKind.signed]
  have : ((i : Int)) % (2 ^ 32) = (i : Int) := by omega
  simp [this]
  omega
theorem wrap_u16 (i : Nat) (h : i < 65536) : IntKind.u16.wrap (i : Int) = (i : Int) := by
  unfold IntKind.wrap
  simp only [IntKind.bits, IntKind.signed]
  have : ((i : Int)) % (2 ^ 16) = (i : Int) := by omega
  simp [this]
  omega
theorem sizeB4 : (Tryd.prog.info? 57).map (·.size) = some 4 := by kernel_rfl
theorem sizeB2 : (Tryd.prog.info? 60).map (·.size) = some 2 := by kernel_rfl
theorem copy_blk {w : World} {ty : TypeId} {g o dLen dCap g2 n sCap N : Nat} {T T2 : TypeId} {p f : Nat → Nat} (hb : Blk w g T (va N (iv .u8 p))) (hb2 : Blk w g2 T2 (va n (iv .u8 f))) (hn : n ≤ dLen) (hfit : o + n ≤ N) :
    (Builtin.copy_ #[64, 64] ty #[.slice (some ⟨g, o, none⟩) dLen dCap, .slice (some ⟨g2, 0, none⟩) n sCap]).run Tryd.prog w = .ok (goInt n) (w.setRow g (va N (iv .u8 (putAt p o n f)))) := by
  have hl : (byL f n).length = n := byL_length f n
  have h := run_copy_row (P := Tryd.prog) w 64 64 ty 5 g o dLen dCap ⟨g2, 0, none⟩ n sCap _ T (byL f n) Tryd.underlying64 ksizeU8 hb (by rw [hl]; show n = min n dLen; omega)
    (fun j v hv => by
      have hj : j < n := by have := (List.getElem?_eq_some_iff.1 hv).1; rw [hl] at this; exact this
      rw [byL_at f n j hj] at hv
      cases hv
      rw [show (⟨g2, 0, none⟩ : Addr).add j = ⟨g2, j, none⟩ from by rcases j with _ | j <;> simp [Addr.add]]
      exact hb2.cv hj) (by rw [hl, va_size]; exact hfit) (mem_iv_one _ _ _)
  rw [hl] at h
  rw [h, ← splice_put N o n p f hfit]
  unfold splice
  rw [hl, List.append_assoc]
theorem zero_e64 (w : World) : (zeroValue 63).run Tryd.prog w = .ok (.agg (va 64 (iv .u8 fun _ => 0))) w := by
  have h : (Tryd.prog.info? 63).map (·.zero) = some (some (.agg (va 64 (iv .u8 fun _ => 0)))) := by kernel_rfl
  cases hq : Tryd.prog.info? 63 with
  | none => simp [hq] at h
  | some i =>
    have hz : i.zero = some (.agg (va 64 (iv .u8 fun _ => 0))) := by simpa [hq] using h
    simp [zeroValue, typeInfo, hq, hz]
theorem put_ent (i : Nat) (s : ByteArray) (j : Nat) : putAt (putAt (putAt (fun _ => 0) 0 4 (nb i)) 4 2 (nb s.size)) 8 s.size (tbyte s) j = entF i s j := by
  unfold putAt entF
  by_cases h0 : j < 4
  · rw [if_pos h0, if_neg (by omega), if_neg (by omega), if_pos (by omega), Nat.sub_zero]
  · by_cases h1 : j < 6
    · rw [if_neg h0, if_pos h1, if_neg (by omega), if_pos (by omega)]
    · rw [if_neg h0, if_neg h1]
      by_cases h2 : j < 8
      · rw [if_pos h2, if_neg (by omega), if_neg (by omega), if_neg (by omega)]
      · rw [if_neg h2]
        by_cases h3 : j < 8 + s.size
        · rw [if_pos h3, if_pos (by omega)]
        · rw [if_neg h3, if_neg (by omega), if_neg (by omega), if_neg (by omega)]
theorem gs_eq {l : Array Bool} {i n : Nat} (h : l.size = n) (hi : i < n) : (l.setIfInBounds i true).getD i false = true := by
  simp [Array.getD, h, hi]
theorem gs_ne {l : Array Bool} {i j : Nat} (h : i ≠ j) : (l.setIfInBounds i true).getD j false = l.getD j false := by
  rw [Array.getD_eq_getD_getElem?, Array.getD_eq_getD_getElem?, Array.getElem?_setIfInBounds, if_neg h]
abbrev lkV (i : Int) (s : ByteArray) : Value := .agg #[.int .i64 i, .string s]
/-- what has been done of the region with two calls and two boxes -/
def encR (w : World) (i : Nat) (s : ByteArray) (l : Array Bool) (a : Act) (W : World) : Prop :=
  ∃ (x25 x30 x5 x6 : Value) (g5 g6 : Nat), a = ({ tmps := #[lkV (i : Int) s, Value.pointer (some ⟨w.heap.size, 0, none⟩), Value.string ⟨#[]⟩, Value.int .i64 0, Value.int .i64 0, x5, x6, undef, Value.pointer (some ⟨w.heap.size, 0, none⟩), Value.int .i64 (i : Int), Value.bool false, Value.bool false, Value.pointer (some ⟨w.heap.size, 0, none⟩), Value.int .i64 (i : Int), Value.bool false, Value.bool false, Value.pointer (some ⟨w.heap.size, 1, none⟩), Value.string s, Value.int .i64 0, Value.int .i64 0, Value.bool false, undef, Value.pointer (some ⟨w.heap.size, 0, none⟩), Value.int .i64 (i : Int), Value.int .u32 (i : Int), x25, Value.pointer (some ⟨w.heap.size, 1, none⟩), Value.string s, Value.int .i64 (s.size : Int), Value.int .u16 (s.size : Int), x30, undef, undef, undef, undef, undef, undef, undef, undef, undef, undef, undef, undef], defers := [] } : Act) ∧ Hid (l.size = 13 ∧ Blk W w.heap.size 23 #[.int .i64 (i : Int), .string s] ∧ Below w.heap.size w W ∧ (l.getD 3 false = true → x25 = .agg (va 4 (iv .u8 (nb i)))) ∧ (l.getD 8 false = true → x30 = .agg (va 2 (iv .u8 (nb s.size)))) ∧
    (l.getD 9 false = true → x5 = .pointer (some ⟨g5, 0, none⟩) ∧ w.heap.size < g5 ∧ Blk W g5 57 (va 4 (iv .u8 (if l.getD 11 false then nb i else fun _ => 0)))) ∧
    (l.getD 10 false = true → x6 = .pointer (some ⟨g6, 0, none⟩) ∧ w.heap.size < g6 ∧ Blk W g6 60 (va 2 (iv .u8 (if l.getD 12 false then nb s.size else fun _ => 0)))) ∧
    (l.getD 9 false = true → l.getD 10 false = true → g5 ≠ g6))
section
variable (s : ByteArray)
set_option maxHeartbeats 4000000 in
theorem encode_ok (i : Nat) (h1 : 1 ≤ i) (h2 : i ≤ 4096) (hn : isName s.data.toList = true) (w : World) :
    Calls Tryd.prog 7 #[lkV (i : Int) s] w fun e w' => e = .returned (.tuple #[.string (strN (entF i s) 64), .int .i64 0]) ∧ Below w.heap.size w w' := by
  have h56 : s.size ≤ 56 := by rw [Lib.size_eq]; exact (isName_len hn).2
  have HB : Hid (Below w.heap.size w (w.alloc (.cells #[.int .i64 (i : Int), .string s] 23))) := below_new1 _ _
  have HBX : Hid (Blk (w.alloc (.cells #[.int .i64 (i : Int), .string s] 23)) w.heap.size 23 #[.int .i64 (i : Int), .string s]) := Blk.new _ _ _
  have HC : Hid (∀ w : World, Calls Tryd.prog 23 #[.string s] w fun e w' => e = .returned (.int .i64 0) ∧ Below w.heap.size w w') := fun w => by
    have := check_any s w
    rw [show nameE s.data.toList = 0 from by unfold nameE; rw [hn]; rfl] at this
    exact this
  clear hn
  have i1 : ¬ ((i : Int) < 1) := by omega
  have i2 : ¬ ((4096 : Int) < (i : Int)) := by omega
  have hw1 : IntKind.u32.wrap (i : Int) = (i : Int) := wrap_u32 i (by omega)
  have hw2 : IntKind.u16.wrap (s.size : Int) = (s.size : Int) := wrap_u16 s.size (by omega)
  go_enter Tryd.func7, Tryd.ntmps7
  go_wp2_with fail
  refine (HC.out _).mono ?_
  intro e w2 hw2
  obtain ⟨he2, hw2⟩ := hw2
  subst he2
  have HB2 : Hid (Below w.heap.size w w2 ∧ Blk w2 w.heap.size 23 #[.int .i64 (i : Int), .string s]) := ⟨HB.out.trans (hw2.mono HB.out.size), HBX.out.below hw2 (by simp)⟩
  clear hw2 HB HBX HC
  go_wp2_with fail
  refine wp_region_mach (fun W => Blk W w.heap.size 23 #[.int .i64 (i : Int), .string s]) (fun i l => match i with | 3 => true | 8 => true | 9 => !l.getD 9 false && !l.getD 11 false | 10 => !l.getD 10 false && !l.getD 12 false | 11 => l.getD 3 false && l.getD 9 false | 12 => l.getD 8 false && l.getD 10 false | _ => false)
    (fun l => l.getD 3 false && l.getD 8 false && l.getD 9 false && l.getD 10 false && l.getD 11 false && l.getD 12 false) [0, 1, 2, 4, 5, 6, 7] 6 (encR w i s) (by kernel_rfl) (by kernel_rfl) HB2.out.2.drew ?_ ?_ ?_
  · refine ⟨_, Value.pointer (some ⟨w.heap.size, 0, none⟩), rfl, Or.inl ⟨by rfl, fun W hW => by go_simp⟩, ?_⟩
    simp only [Act.put, List.setIfInBounds_toArray, List.set_cons_zero, List.set_cons_succ]
    refine ⟨_, Value.int .i64 (i : Int), rfl, Or.inl ⟨by rfl, fun W hW => by have hW1 : W.cell? ⟨w.heap.size, 0, none⟩ = some (.int .i64 (i : Int)) := hW.cell 0; go_simp⟩, ?_⟩
    simp only [Act.put, List.setIfInBounds_toArray, List.set_cons_zero, List.set_cons_succ]
    refine ⟨_, Value.int .u32 (i : Int), rfl, Or.inl ⟨by rfl, fun W hW => by go_simp⟩, ?_⟩
    simp only [Act.put, List.setIfInBounds_toArray, List.set_cons_zero, List.set_cons_succ]
    refine ⟨_, Value.pointer (some ⟨w.heap.size, 1, none⟩), rfl, Or.inl ⟨by rfl, fun W hW => by go_simp⟩, ?_⟩
    simp only [Act.put, List.setIfInBounds_toArray, List.set_cons_zero, List.set_cons_succ]
    refine ⟨_, Value.string s, rfl, Or.inl ⟨by rfl, fun W hW => by have hW1 : W.cell? ⟨w.heap.size, 1, none⟩ = some (.string s) := hW.cell 1; go_simp⟩, ?_⟩
    simp only [Act.put, List.setIfInBounds_toArray, List.set_cons_zero, List.set_cons_succ]
    refine ⟨_, Value.int .i64 (s.size : Int), rfl, Or.inl ⟨by rfl, fun W hW => by go_simp⟩, ?_⟩
    simp only [Act.put, List.setIfInBounds_toArray, List.set_cons_zero, List.set_cons_succ]
    refine ⟨_, Value.int .u16 (s.size : Int), rfl, Or.inl ⟨by rfl, fun W hW => by go_simp⟩, ?_⟩
    simp only [Act.put, List.setIfInBounds_toArray, List.set_cons_zero, List.set_cons_succ]
    exact ⟨undef, undef, undef, undef, 0, 0, rfl, rfl, HB2.out.2.drew, HB2.out.1.drew, fun h => absurd (show false = true from h) (by decide), fun h => absurd (show false = true from h) (by decide), fun h => absurd (show false = true from h) (by decide), fun h => absurd (show false = true from h) (by decide), fun h => absurd (show false = true from h) (by decide)⟩
  · intro j l a W hp hR
    obtain ⟨x25, x30, x5, x6, g5, g6, rfl, H⟩ := hR
    have hj : j = 3 ∨ j = 8 ∨ j = 9 ∨ j = 10 ∨ j = 11 ∨ j = 12 := by
      split at hp <;> simp_all
    obtain ⟨hsz, hbox, hbel, h3, h8, h9, h10, hne⟩ := H.out
    have HS : Hid (W.heap.size = W.heap.size) := rfl
    clear H
    rcases hj with rfl | rfl | rfl | rfl | rfl | rfl
    · clear hp
      simp only [List.cons_append, List.nil_append, List.append_nil, List.filterMap_cons, List.filterMap_nil, List.getElem?_toArray, List.getElem?_cons_zero, List.getElem?_cons_succ]
      go_wp2_with fail
      refine (bytes32_nb i _).mono ?_
      intro e w3 hw3
      obtain ⟨he3, hb3⟩ := hw3
      subst he3
      have HX : Hid (Blk w3 w.heap.size 23 #[.int .i64 (i : Int), .string s]) := hbox.below hb3 hbox.lt
      have HR : Hid (_ ∧ _ ∧ _ ∧ _ ∧ _ ∧ _) := ⟨hsz, hbel.trans (hb3.mono hbel.size), h8, fun h => (⟨(h9 h).1, (h9 h).2.1, (h9 h).2.2.below hb3 (h9 h).2.2.lt⟩ : _ ∧ _ ∧ Blk w3 g5 _ _), fun h => (⟨(h10 h).1, (h10 h).2.1, (h10 h).2.2.below hb3 (h10 h).2.2.lt⟩ : _ ∧ _ ∧ Blk w3 g6 _ _), hne⟩
      clear hbox hbel h3 h8 h9 h10 hne hb3
      go_wp2_with fail
      refine ⟨rfl, HX.out, _, x30, x5, x6, g5, g6, rfl, ?_⟩
      obtain ⟨hsz, hbel, h8, h9, h10, hne⟩ := HR.out
      refine ⟨by simpa using hsz, HX.out, hbel, fun _ => rfl, ?_, ?_, ?_, ?_⟩
      · rw [gs_ne (by decide)]; exact h8
      · rw [gs_ne (by decide), gs_ne (by decide)]; exact h9
      · rw [gs_ne (by decide), gs_ne (by decide)]; exact h10
      · rw [gs_ne (by decide), gs_ne (by decide)]; exact hne
    · clear hp
      simp only [List.cons_append, List.nil_append, List.append_nil, List.filterMap_cons, List.filterMap_nil, List.getElem?_toArray, List.getElem?_cons_zero, List.getElem?_cons_succ]
      go_wp2_with fail
      refine (bytes16_nb s.size _).mono ?_
      intro e w3 hw3
      obtain ⟨he3, hb3⟩ := hw3
      subst he3
      have HX : Hid (Blk w3 w.heap.size 23 #[.int .i64 (i : Int), .string s]) := hbox.below hb3 hbox.lt
      have HR : Hid (_ ∧ _ ∧ _ ∧ _ ∧ _ ∧ _) := ⟨hsz, hbel.trans (hb3.mono hbel.size), h3, fun h => (⟨(h9 h).1, (h9 h).2.1, (h9 h).2.2.below hb3 (h9 h).2.2.lt⟩ : _ ∧ _ ∧ Blk w3 g5 _ _), fun h => (⟨(h10 h).1, (h10 h).2.1, (h10 h).2.2.below hb3 (h10 h).2.2.lt⟩ : _ ∧ _ ∧ Blk w3 g6 _ _), hne⟩
      clear hbox hbel h3 h8 h9 h10 hne hb3
      go_wp2_with fail
      refine ⟨rfl, HX.out, x25, _, x5, x6, g5, g6, rfl, ?_⟩
      obtain ⟨hsz, hbel, h3, h9, h10, hne⟩ := HR.out
      refine ⟨by simpa using hsz, HX.out, hbel, ?_, fun _ => rfl, ?_, ?_, ?_⟩
      · rw [gs_ne (by decide)]; exact h3
      · rw [gs_ne (by decide), gs_ne (by decide)]; exact h9
      · rw [gs_ne (by decide), gs_ne (by decide)]; exact h10
      · rw [gs_ne (by decide), gs_ne (by decide)]; exact hne
    · simp only [Bool.and_eq_true, Bool.not_eq_true'] at hp
      have hp11 := hp.2
      simp only [List.cons_append, List.nil_append, List.append_nil, List.filterMap_cons, List.filterMap_nil, List.getElem?_toArray, List.getElem?_cons_zero, List.getElem?_cons_succ]
      go_wp2_with fail
      refine ⟨rfl, hbox.alloc _, x25, x30, _, x6, W.heap.size, g6, rfl, ?_⟩
      refine ⟨by simpa using hsz, hbox.alloc _, hbel.alloc hbel.size _, ?_, ?_, fun _ => ⟨rfl, by have := hbox.lt; omega, by rw [gs_ne (by decide), hp11]; exact Blk.new _ _ _⟩, ?_, fun _ h => by rw [gs_ne (by decide)] at h; have := (h10 h).2.2.lt; omega⟩
      · rw [gs_ne (by decide)]; exact h3
      · rw [gs_ne (by decide)]; exact h8
      · rw [gs_ne (by decide), gs_ne (by decide)]; exact fun h => ⟨(h10 h).1, (h10 h).2.1, (h10 h).2.2.alloc _⟩
    · simp only [Bool.and_eq_true, Bool.not_eq_true'] at hp
      have hp11 := hp.2
      simp only [List.cons_append, List.nil_append, List.append_nil, List.filterMap_cons, List.filterMap_nil, List.getElem?_toArray, List.getElem?_cons_zero, List.getElem?_cons_succ]
      go_wp2_with fail
      refine ⟨rfl, hbox.alloc _, x25, x30, x5, _, g5, W.heap.size, rfl, ?_⟩
      refine ⟨by simpa using hsz, hbox.alloc _, hbel.alloc hbel.size _, ?_, ?_, ?_, fun _ => ⟨rfl, by have := hbox.lt; omega, by rw [gs_ne (by decide), hp11]; exact Blk.new _ _ _⟩, fun h _ => by rw [gs_ne (by decide)] at h; have := (h9 h).2.2.lt; omega⟩
      · rw [gs_ne (by decide)]; exact h3
      · rw [gs_ne (by decide)]; exact h8
      · rw [gs_ne (by decide), gs_ne (by decide)]; exact fun h => ⟨(h9 h).1, (h9 h).2.1, (h9 h).2.2.alloc _⟩
    · simp only [Bool.and_eq_true] at hp
      obtain rfl := h3 hp.1
      obtain ⟨rfl, hgl, hblk⟩ := h9 hp.2
      simp only [List.cons_append, List.nil_append, List.append_nil, List.filterMap_cons, List.filterMap_nil, List.getElem?_toArray, List.getElem?_cons_zero, List.getElem?_cons_succ]
      (refine wpList_store_row (by rfl) 57 _ _ (by rfl) (g5) (va 4 (iv .u8 (nb i))) (by rfl) (by rfl) 57 _ hblk (sizeB4.trans (by rw [va_size])) (by simp only [va_size]) (iv_one _ _ _) ?_; simp only [Act.put, List.setIfInBounds_toArray, List.set_cons_zero, List.set_cons_succ])
      refine ⟨rfl, hbox.other _ (by omega), _, x30, _, x6, g5, g6, rfl, ?_⟩
      refine ⟨by simpa using hsz, hbox.other _ (by omega), below_setRow hbel (by omega) _, fun _ => rfl, fun h => by rw [gs_ne (by decide)] at h; exact h8 h, fun _ => ⟨rfl, hgl, by rw [gs_eq hsz (by decide)]; exact hblk.set _⟩, fun h => by rw [gs_ne (by decide)] at h; rw [gs_ne (by decide)]; exact ⟨(h10 h).1, (h10 h).2.1, (h10 h).2.2.other _ (fun e => (hne hp.2 h) e.symm)⟩, fun h h' => by rw [gs_ne (by decide)] at h h'; exact hne h h'⟩
    · simp only [Bool.and_eq_true] at hp
      obtain rfl := h8 hp.1
      obtain ⟨rfl, hgl, hblk⟩ := h10 hp.2
      simp only [List.cons_append, List.nil_append, List.append_nil, List.filterMap_cons, List.filterMap_nil, List.getElem?_toArray, List.getElem?_cons_zero, List.getElem?_cons_succ]
      (refine wpList_store_row (by rfl) 60 _ _ (by rfl) (g6) (va 2 (iv .u8 (nb s.size))) (by rfl) (by rfl) 60 _ hblk (sizeB2.trans (by rw [va_size])) (by simp only [va_size]) (iv_one _ _ _) ?_; simp only [Act.put, List.setIfInBounds_toArray, List.set_cons_zero, List.set_cons_succ])
      refine ⟨rfl, hbox.other _ (by omega), x25, _, x5, _, g5, g6, rfl, ?_⟩
      refine ⟨by simpa using hsz, hbox.other _ (by omega), below_setRow hbel (by omega) _, fun h => by rw [gs_ne (by decide)] at h; exact h3 h, fun _ => rfl, fun h => by rw [gs_ne (by decide)] at h; rw [gs_ne (by decide)]; exact ⟨(h9 h).1, (h9 h).2.1, (h9 h).2.2.other _ (fun e => (hne h hp.2) e)⟩, fun _ => ⟨rfl, hgl, by rw [gs_eq hsz (by decide)]; exact hblk.set _⟩, fun h h' => by rw [gs_ne (by decide)] at h h'; exact hne h h'⟩
  · intro l a W hp hR
    obtain ⟨x25, x30, x5, x6, g5, g6, rfl, H⟩ := hR
    simp only [Bool.and_eq_true] at hp
    obtain ⟨⟨⟨⟨⟨p3, p8⟩, p9⟩, p10⟩, p11⟩, p12⟩ := hp
    obtain ⟨hsz, hbox, hbel, h3, h8, h9, h10, hne⟩ := H.out
    clear H
    obtain ⟨rfl, hg5, hk5⟩ := h9 p9
    obtain ⟨rfl, hg6, hk6⟩ := h10 p10
    have hn := hne p9 p10
    rw [p11, if_pos rfl] at hk5
    rw [p12, if_pos rfl] at hk6
    obtain rfl := h3 p3
    obtain rfl := h8 p8
    refine ⟨rfl, ?_⟩
    have HZ : Hid (_ ∧ _ ∧ _ ∧ _) := ⟨hbox, hbel, hk5, hk6⟩
    clear h3 h8 h9 h10 hne p3 p8 p9 p10 p11 p12 hsz hbox hbel hk5 hk6 l
    have HZ2 : Hid (Blk (W.alloc (.cells (va 64 (iv .u8 fun _ => 0)) 63)) W.heap.size 63 (va 64 (iv .u8 fun _ => 0)) ∧ Blk (W.alloc (.cells (va 64 (iv .u8 fun _ => 0)) 63)) w.heap.size 23 #[.int .i64 (i : Int), .string s] ∧ Below w.heap.size w (W.alloc (.cells (va 64 (iv .u8 fun _ => 0)) 63)) ∧ Blk (W.alloc (.cells (va 64 (iv .u8 fun _ => 0)) 63)) g5 57 (va 4 (iv .u8 (nb i))) ∧ Blk (W.alloc (.cells (va 64 (iv .u8 fun _ => 0)) 63)) g6 60 (va 2 (iv .u8 (nb s.size))) ∧ w.heap.size < W.heap.size ∧ g5 < W.heap.size ∧ g6 < W.heap.size) :=
      ⟨Blk.new _ _ _, HZ.out.1.alloc _, HZ.out.2.1.alloc HZ.out.2.1.size _, HZ.out.2.2.1.alloc _, HZ.out.2.2.2.alloc _, HZ.out.1.lt, HZ.out.2.2.1.lt, HZ.out.2.2.2.lt⟩
    have hz := zero_e64
    go_wp2_with fail
    generalize W.alloc (.cells (va 64 (iv .u8 fun _ => 0)) 63) = W7 at HZ2 ⊢
    generalize W.heap.size = g7 at HZ2 ⊢
    clear hz HZ
    have h7 : w.heap.size < g7 ∧ g5 < g7 ∧ g6 < g7 := HZ2.out.2.2.2.2.2
    have hc1 := fun ty => copy_blk (ty := ty) (o := 0) (dLen := 4) (dCap := 64) (sCap := 4) HZ2.out.1.drew HZ2.out.2.2.2.1.drew (by decide) (by decide)
    have HZ3 : Hid (_ ∧ _ ∧ _ ∧ _) := ⟨HZ2.out.1.drew.set (va 64 (iv .u8 (putAt (fun _ => 0) 0 4 (nb i)))), HZ2.out.2.1.drew.other (g := g7) (va 64 (iv .u8 (putAt (fun _ => 0) 0 4 (nb i)))) (by omega), HZ2.out.2.2.2.2.1.drew.other (g := g7) (va 64 (iv .u8 (putAt (fun _ => 0) 0 4 (nb i)))) (by omega), below_setRow HZ2.out.2.2.1.drew (Nat.le_of_lt h7.1) (va 64 (iv .u8 (putAt (fun _ => 0) 0 4 (nb i))))⟩
    go_region
    generalize W7.drew.setRow g7 (va 64 (iv .u8 (putAt (fun _ => 0) 0 4 (nb i)))) = W8 at HZ3 ⊢
    clear hc1 HZ2
    go_wp2_with fail
    have hc2 := fun ty => copy_blk (ty := ty) (o := 4) (dLen := 2) (dCap := 60) (sCap := 2) HZ3.out.1.drew HZ3.out.2.2.1.drew (by decide) (by decide)
    have HF : ∀ j, j < 64 → putAt (putAt (putAt (fun _ => 0) 0 4 (nb i)) 4 2 (nb s.size)) 8 s.size (tbyte s) j = entF i s j := fun j hj => put_ent i s j
    generalize putAt (fun _ => 0) 0 4 (nb i) = P1 at *
    have HZ4 : Hid (_ ∧ _ ∧ _) := ⟨HZ3.out.1.drew.set (va 64 (iv .u8 (putAt P1 4 2 (nb s.size)))), HZ3.out.2.1.drew.other (g := g7) (va 64 (iv .u8 (putAt P1 4 2 (nb s.size)))) (by omega), below_setRow HZ3.out.2.2.2.drew (Nat.le_of_lt h7.1) (va 64 (iv .u8 (putAt P1 4 2 (nb s.size))))⟩
    go_region
    generalize W8.drew.setRow g7 (va 64 (iv .u8 (putAt P1 4 2 (nb s.size)))) = W9 at HZ4 ⊢
    clear hc2 HZ3
    go_wp2_with fail
    have hc3 := fun ty => run_copy_text (P := Tryd.prog) W9.drew 64 9 ty 5 g7 8 56 56 s _ 63 s.size Tryd.underlying64 ksizeU8 HZ4.out.1.drew (by show _ = min _ _; omega) (by rw [va_size]; omega)
    generalize HP2 : putAt P1 4 2 (nb s.size) = P2 at *
    have hcell : W9.cell? ⟨w.heap.size, 1, none⟩ = some (.string s) := HZ4.out.2.1.cell 1
    have hcell2 : W9.drew.cell? ⟨w.heap.size, 1, none⟩ = some (.string s) := hcell
    simp only [splice_put 64 8 s.size P2 (tbyte s) (by omega)] at hc3
    have HZ5 : Hid (_ ∧ _) := ⟨HZ4.out.1.drew.set (va 64 (iv .u8 (putAt P2 8 s.size (tbyte s)))), below_setRow HZ4.out.2.2.drew (Nat.le_of_lt h7.1) (va 64 (iv .u8 (putAt P2 8 s.size (tbyte s))))⟩
    go_region
    generalize W9.drew.setRow g7 (va 64 (iv .u8 (putAt P2 8 s.size (tbyte s)))) = W10 at HZ5 ⊢
    clear hc3 hcell hcell2 HZ4
    have hr := run_bytes_text (P := Tryd.prog) W10 64 5 9 Tryd.underlying64 Tryd.underlying5 Tryd.underlying9 HZ5.out.1 0 64 64 (by omega)
    have HE : Hid (strN (fun j => putAt P2 8 s.size (tbyte s) (0 + j)) 64 = strN (entF i s) 64) := strN_congr fun j hj => by
      rw [Nat.zero_add]
      exact HF j hj
    generalize strN (fun j => putAt P2 8 s.size (tbyte s) (0 + j)) 64 = tx at hr HE
    go_wp2_with fail
    go_ret2
    exact ⟨by rw [← HE.out]; rfl, HZ5.out.2⟩
end
end Go.Proofs.YtgpghdhkbliodaaDoor

namespace Go.Proofs.YtgpghdhkbliodaaDoor
set_option maxRecDepth 20000
open Go Go.RowKit
set_option linter.unusedVariables false
set_option linter.unusedSimpArgs false
set_option maxHeartbeats 4000000 in
theorem awake13_any (w : World) : Calls Tryd.prog 11 #[] w fun e w' => e = .returned (.bool true) ∧ Below w.heap.size w w' := by
  have HE : Hid (∀ w : World, Calls Tryd.prog 7 #[.agg #[.int .i64 1, .string ⟨#[97]⟩]] w fun e w' => e = .returned (.tuple #[.string (strN (entF 1 ⟨#[97]⟩) 64), .int .i64 0]) ∧ Below w.heap.size w w') := fun w => encode_ok ⟨#[97]⟩ 1 (by decide) (by decide) (by decide) w
  have HC1 : Hid (∀ w : World, Calls Tryd.prog 23 #[.string ⟨#[97]⟩] w fun e w' => e = .returned (.int .i64 0) ∧ Below w.heap.size w w') := fun w => check_any ⟨#[97]⟩ w
  have HC2 : Hid (∀ w : World, Calls Tryd.prog 23 #[.string ⟨#[47]⟩] w fun e w' => e = .returned (.int .i64 130) ∧ Below w.heap.size w w') := fun w => check_any ⟨#[47]⟩ w
  have hz := strN_size (entF 1 ⟨#[97]⟩) 64
  generalize strN (entF 1 ⟨#[97]⟩) 64 = tx at HE hz
  go_enter Tryd.func11, Tryd.ntmps11
  go_wp2_with fail
  refine (HE.out _).mono ?_
  intro e w2 hw2
  obtain ⟨he2, hw2⟩ := hw2
  subst he2
  go_wp2_with fail
  refine (HC1.out _).mono ?_
  intro e w3 hw3
  obtain ⟨he3, hw3⟩ := hw3
  subst he3
  have hb3 : Below w.heap.size w w3 := hw2.trans (hw3.mono hw2.size)
  clear hw2 hw3
  go_wp2_with fail
  refine (HC2.out _).mono ?_
  intro e w4 hw4
  obtain ⟨he4, hw4⟩ := hw4
  subst he4
  have HB4 : Hid (Below w.heap.size w w4) := hb3.trans (hw4.mono hb3.size)
  clear hb3 hw4
  go_wp2_with fail
  go_ret
  exact ⟨rfl, HB4.out⟩
end Go.Proofs.YtgpghdhkbliodaaDoor


/- Patterns with ? and *: what a text is, as plain lists of bytes: what the program keeps in each round, and the rows of the document. -/
namespace Go.Nam

/-- A text is a pattern (signs as numbers: 42 is the star, 63 any one). -/
inductive Mat : List UInt8 → List UInt8 → Prop
  | nil : Mat [] []
  | one {p c : UInt8} {ps s : List UInt8} : p ≠ 42 → (p = 63 ∨ p = c) → Mat ps s → Mat (p :: ps) (c :: s)
  | none {ps s : List UInt8} : Mat ps s → Mat (42 :: ps) s
  | more {ps s : List UInt8} {c : UInt8} : Mat (42 :: ps) s → Mat (42 :: ps) (c :: s)

theorem Mat.nil_iff {s : List UInt8} : Mat [] s ↔ s = [] := by
  constructor
  · intro h; cases h; rfl
  · rintro rfl; exact .nil

theorem Mat.one_nil {p : UInt8} {ps : List UInt8} (hp : p ≠ 42) : ¬ Mat (p :: ps) [] := by
  intro h; cases h with
  | none _ => exact hp rfl

theorem Mat.one_iff {p c : UInt8} {ps s : List UInt8} (hp : p ≠ 42) : Mat (p :: ps) (c :: s) ↔ (p = 63 ∨ p = c) ∧ Mat ps s := by
  constructor
  · intro h; cases h with
    | one _ h1 h2 => exact ⟨h1, h2⟩
    | none _ => exact absurd rfl hp
    | more _ => exact absurd rfl hp
  · rintro ⟨h1, h2⟩; exact .one hp h1 h2

theorem Mat.star_drop {ps : List UInt8} : ∀ (k : Nat) (s : List UInt8), Mat ps (s.drop k) → Mat (42 :: ps) s
  | 0, s, h => .none (by simpa using h)
  | k + 1, [], h => .none (by simpa using h)
  | k + 1, c :: s, h => .more (Mat.star_drop k s (by simpa using h))

theorem Mat.star_iff {ps s : List UInt8} : Mat (42 :: ps) s ↔ ∃ k, k ≤ s.length ∧ Mat ps (s.drop k) := by
  constructor
  · intro h
    induction s with
    | nil => cases h with
      | none h => exact ⟨0, by simp, by simpa using h⟩
    | cons c s ih =>
      cases h with
      | one h1 _ _ => exact absurd rfl h1
      | none h => exact ⟨0, by simp, by simpa using h⟩
      | more h => obtain ⟨k, hk, h2⟩ := ih h; exact ⟨k + 1, by simp; omega, by simpa using h2⟩
  · rintro ⟨k, _, h⟩; exact Mat.star_drop k s h

theorem Mat.app {a b : List UInt8} : ∀ {s : List UInt8}, Mat (a ++ b) s ↔ ∃ j, j ≤ s.length ∧ Mat a (s.take j) ∧ Mat b (s.drop j) := by
  induction a with
  | nil =>
    intro s
    constructor
    · intro h; exact ⟨0, by simp, by simpa using Mat.nil, by simpa using h⟩
    · rintro ⟨j, hj, h1, h2⟩
      have := Mat.nil_iff.1 h1
      have h3 : j = 0 := by
        have := congrArg List.length this; rw [List.length_take, List.length_nil] at this; omega
      subst h3; simpa using h2
  | cons p a ih =>
    intro s
    by_cases hp : p = 42
    · subst hp
      rw [List.cons_append, Mat.star_iff]
      constructor
      · rintro ⟨k, hk, h⟩
        obtain ⟨j, hj, h1, h2⟩ := ih.1 h
        rw [List.length_drop] at hj
        refine ⟨k + j, by omega, Mat.star_drop k _ ?_, by rw [List.drop_drop] at h2; exact h2⟩
        rw [List.drop_take]; rwa [Nat.add_sub_cancel_left]
      · rintro ⟨j, hj, h1, h2⟩
        obtain ⟨k, hk, h3⟩ := Mat.star_iff.1 h1
        rw [List.length_take] at hk
        refine ⟨k, by omega, ih.2 ⟨j - k, by rw [List.length_drop]; omega, by rwa [List.drop_take] at h3, ?_⟩⟩
        rw [List.drop_drop, Nat.add_sub_cancel' (by omega)]; exact h2
    · cases s with
      | nil =>
        constructor
        · intro h; exact absurd h (Mat.one_nil hp)
        · rintro ⟨j, hj, h1, h2⟩; simp at h1; exact absurd h1 (Mat.one_nil hp)
      | cons c s =>
        rw [List.cons_append, Mat.one_iff hp]
        constructor
        · rintro ⟨h0, h⟩
          obtain ⟨j, hj, h1, h2⟩ := ih.1 h
          exact ⟨j + 1, by simp; omega, by simpa using (Mat.one_iff hp).2 ⟨h0, h1⟩, by simpa using h2⟩
        · rintro ⟨j, hj, h1, h2⟩
          cases j with
          | zero => simp at h1; exact absurd h1 (Mat.one_nil hp)
          | succ j =>
            rw [List.take_succ_cons, Mat.one_iff hp] at h1
            exact ⟨h1.1, ih.2 ⟨j, by simp at hj; omega, h1.2, by simpa using h2⟩⟩

/-- a pattern without a star against a text of its own length -/
def PSeg (a t : List UInt8) : Prop := a.length = t.length ∧ ∀ i, (h : i < a.length) → (h2 : i < t.length) → a[i] ≠ 42 ∧ (a[i] = 63 ∨ a[i] = t[i])

theorem PSeg.mat_len {a t : List UInt8} (ha : ∀ i, (h : i < a.length) → a[i] ≠ 42) (h : Mat a t) : a.length = t.length := by
  induction a generalizing t with
  | nil => rw [Mat.nil_iff.1 h]
  | cons p a ih =>
    have hp : p ≠ 42 := ha 0 (by simp)
    cases t with
    | nil => exact absurd h (Mat.one_nil hp)
    | cons c t =>
      have := ih (fun i hi => by have h5 := ha (i + 1) (by simpa using hi); rw [List.getElem_cons_succ] at h5; exact h5) ((Mat.one_iff hp).1 h).2
      simp [this]

/-- What a row of the document's table says. -/
theorem Mat.snoc_star {a s : List UInt8} {i : Nat} (hi : i < s.length) :
    Mat (a ++ [42]) (s.take (i + 1)) ↔ Mat a (s.take (i + 1)) ∨ Mat (a ++ [42]) (s.take i) := by
  have star : ∀ t : List UInt8, Mat [42] t := fun t => Mat.star_drop t.length t (by simpa using Mat.nil)
  constructor
  · intro h
    obtain ⟨j, hj, h1, _⟩ := Mat.app.1 h
    rw [List.length_take] at hj
    by_cases hj2 : j = i + 1
    · left; rw [List.take_take, hj2, Nat.min_self] at h1; exact h1
    · right
      refine Mat.app.2 ⟨j, by rw [List.length_take]; omega, ?_, star _⟩
      rw [List.take_take] at h1 ⊢
      rw [Nat.min_eq_left (by omega)] at h1 ⊢
      exact h1
  · rintro (h | h)
    · exact Mat.app.2 ⟨i + 1, by rw [List.length_take]; omega, by rw [List.take_take, Nat.min_self]; exact h, star _⟩
    · obtain ⟨j, hj, h1, _⟩ := Mat.app.1 h
      rw [List.length_take] at hj
      refine Mat.app.2 ⟨j, by rw [List.length_take]; omega, ?_, star _⟩
      rw [List.take_take] at h1 ⊢
      rw [Nat.min_eq_left (by omega)] at h1 ⊢
      exact h1

theorem Mat.snoc_one {a s : List UInt8} {i : Nat} {p : UInt8} (hp : p ≠ 42) (hi : i < s.length) :
    Mat (a ++ [p]) (s.take (i + 1)) ↔ Mat a (s.take i) ∧ (p = 63 ∨ p = s[i]) := by
  have one : ∀ t : List UInt8, Mat [p] t ↔ ∃ c, t = [c] ∧ (p = 63 ∨ p = c) := by
    intro t
    cases t with
    | nil => constructor
             · intro h; exact absurd h (Mat.one_nil hp)
             · rintro ⟨c, h, _⟩; cases h
    | cons c t =>
      rw [Mat.one_iff hp, Mat.nil_iff]
      constructor
      · rintro ⟨h1, rfl⟩; exact ⟨c, rfl, h1⟩
      · rintro ⟨d, h1, h2⟩; cases h1; exact ⟨h2, rfl⟩
  constructor
  · intro h
    obtain ⟨j, hj, h1, h2⟩ := Mat.app.1 h
    obtain ⟨c, h3, h4⟩ := (one _).1 h2
    have hl := congrArg List.length h3
    simp only [List.length_drop, List.length_take, List.length_cons, List.length_nil] at hl
    have hji : j = i := by omega
    subst hji
    rw [List.take_take, Nat.min_eq_left (by omega)] at h1
    refine ⟨h1, ?_⟩
    have : c = s[j] := by
      have h5 := congrArg (fun l : List UInt8 => l[0]?) h3
      simp [List.getElem?_drop, hi] at h5
      exact h5.symm
    rw [← this]; exact h4
  · rintro ⟨h1, h2⟩
    refine Mat.app.2 ⟨i, by rw [List.length_take]; omega, by rw [List.take_take, Nat.min_eq_left (by omega)]; exact h1, (one _).2 ⟨s[i], ?_, h2⟩⟩
    apply List.ext_getElem
    · simp; omega
    · intro k h3 h4
      simp at h4
      subst h4
      simp

theorem Mat.snoc_star_nil {a : List UInt8} : Mat (a ++ [42]) [] ↔ Mat a [] := by
  rw [Mat.app]
  constructor
  · rintro ⟨j, hj, h1, _⟩; simpa using h1
  · intro h; exact ⟨0, by simp, by simpa using h, by simpa using Mat.none Mat.nil⟩

theorem Mat.snoc_one_nil {a : List UInt8} {p : UInt8} (hp : p ≠ 42) : ¬ Mat (a ++ [p]) [] := by
  rw [Mat.app]
  rintro ⟨j, hj, _, h2⟩
  simp at h2
  exact Mat.one_nil hp h2

theorem Mat.nil_all {ps : List UInt8} : Mat ps [] ↔ ∀ x ∈ ps, x = 42 := by
  induction ps with
  | nil => simp [Mat.nil]
  | cons p ps ih =>
    by_cases hp : p = 42
    · subst hp
      rw [Mat.star_iff]
      simp [ih]
    · simp only [List.mem_cons, forall_eq_or_imp, hp, false_and, iff_false]
      exact Mat.one_nil hp

/-- The program's state: where the last star stood (or none), what it was given, and the two places. -/
structure PSt (P s : List UInt8) (A : Prop) (star : Option Nat) (behind p i : Nat) : Prop where
  hp : p ≤ P.length
  hi : i ≤ s.length
  out : A ↔ (Mat (P.drop p) (s.drop i) ∨ ∃ q, star = some q ∧ ∃ k, behind < k ∧ k ≤ s.length ∧ Mat (P.drop (q + 1)) (s.drop k))
  seg : ∀ q, star = some q → q + 1 ≤ p ∧ behind ≤ i ∧ p - (q + 1) = i - behind ∧ ∀ j, q < j → j < p → P[j]? ≠ some 42

theorem PSt.start (P s : List UInt8) : PSt P s (Mat P s) none 0 0 0 :=
  ⟨by simp, by simp, by simp, by simp⟩

/-- What stands behind the last star, given more, was in vain or not wanted. -/
theorem PSt.spare {P s : List UInt8} {A : Prop} {star : Option Nat} {behind p i : Nat} (H : PSt P s A star behind p i) {q k : Nat} (hq : star = some q) (hk : behind < k) (hk2 : k ≤ s.length)
    (h : Mat (P.drop (q + 1)) (s.drop k)) : ∃ j, i < j ∧ j ≤ s.length ∧ Mat (P.drop p) (s.drop j) := by
  obtain ⟨h1, h2, h3, h4⟩ := H.seg q hq
  have hsplit : P.drop (q + 1) = (P.drop (q + 1)).take (p - (q + 1)) ++ P.drop p := by
    conv => lhs; rw [← List.take_append_drop (p - (q + 1)) (P.drop (q + 1))]
    rw [List.drop_drop, Nat.add_sub_cancel' h1]
  rw [hsplit] at h
  obtain ⟨j, hj, h5, h6⟩ := Mat.app.1 h
  have hl := PSeg.mat_len (fun x hx => by
    intro he
    have hx2 : x < p - (q + 1) := by rw [List.length_take] at hx; omega
    refine h4 (q + 1 + x) (by omega) (by omega) ?_
    rw [← he, List.getElem_take, List.getElem_drop, List.getElem?_eq_getElem]) h5
  rw [List.length_drop] at hj
  rw [List.length_take, List.length_drop, List.length_take, List.length_drop] at hl
  have hpl := H.hp
  refine ⟨k + j, by omega, by omega, ?_⟩
  rw [List.drop_drop] at h6; exact h6

theorem drop_at {l : List UInt8} {i : Nat} {c : UInt8} (h : l[i]? = some c) : l.drop i = c :: l.drop (i + 1) := by
  obtain ⟨h1, h2⟩ := List.getElem?_eq_some_iff.1 h
  rw [← h2]; exact List.drop_eq_getElem_cons h1

theorem PSt.star {P s : List UInt8} {A : Prop} {star : Option Nat} {behind p i : Nat} (H : PSt P s A star behind p i) (hp : P[p]? = some 42) : PSt P s A (some p) i (p + 1) i := by
  have hl : p < P.length := (List.getElem?_eq_some_iff.1 hp).1
  refine ⟨by omega, H.hi, ?_, ?_⟩
  · rw [H.out, drop_at hp]
    constructor
    · have go : Mat (42 :: P.drop (p + 1)) (s.drop i) → (Mat (P.drop (p + 1)) (s.drop i) ∨ ∃ q, some p = some q ∧ ∃ k, i < k ∧ k ≤ s.length ∧ Mat (P.drop (q + 1)) (s.drop k)) := by
        intro h
        obtain ⟨k, hk, h2⟩ := Mat.star_iff.1 h
        rw [List.length_drop] at hk
        rw [List.drop_drop] at h2
        cases k with
        | zero => left; simpa using h2
        | succ k => right; have := H.hi; exact ⟨p, rfl, i + (k + 1), by omega, by omega, h2⟩
      rintro (h | ⟨q, hq, k, hk, hk2, h⟩)
      · exact go h
      · obtain ⟨j, hj, hj2, h3⟩ := H.spare hq hk hk2 h
        rw [drop_at hp] at h3
        refine go (Mat.star_iff.2 ?_)
        obtain ⟨m, hm, h4⟩ := Mat.star_iff.1 h3
        rw [List.length_drop] at hm
        rw [List.drop_drop] at h4
        refine ⟨j + m - i, by rw [List.length_drop]; omega, ?_⟩
        rw [List.drop_drop, show i + (j + m - i) = j + m by omega]; exact h4
    · rintro (h | ⟨q, hq, k, hk, hk2, h⟩)
      · exact Or.inl (.none h)
      · cases hq
        refine Or.inl (Mat.star_iff.2 ⟨k - i, by rw [List.length_drop]; omega, ?_⟩)
        rw [List.drop_drop, Nat.add_sub_cancel' (by omega)]; exact h
  · rintro q hq
    cases hq
    exact ⟨by omega, by omega, by omega, fun j h1 h2 => by omega⟩

theorem PSt.one {P s : List UInt8} {A : Prop} {star : Option Nat} {behind p i : Nat} {a c : UInt8} (H : PSt P s A star behind p i) (hp : P[p]? = some a) (hi : s[i]? = some c) (ha : a ≠ 42) (h : a = 63 ∨ a = c) :
    PSt P s A star behind (p + 1) (i + 1) := by
  have hl : p < P.length := (List.getElem?_eq_some_iff.1 hp).1
  have hm : i < s.length := (List.getElem?_eq_some_iff.1 hi).1
  refine ⟨by omega, by omega, ?_, ?_⟩
  · rw [H.out, drop_at hp, drop_at hi, Mat.one_iff ha]
    simp [h]
  · intro q hq
    obtain ⟨h1, h2, h3, h4⟩ := H.seg q hq
    refine ⟨by omega, by omega, by omega, fun j h5 h6 => ?_⟩
    by_cases hj : j = p
    · rw [hj, hp]; simpa using ha
    · exact h4 j h5 (by omega)

/-- nothing here -/
theorem PSt.not {P s : List UInt8} {p i : Nat} {c : UInt8} (hi : s[i]? = some c) (hp : ∀ a, P[p]? = some a → a ≠ 42 ∧ a ≠ 63 ∧ a ≠ c) : ¬ Mat (P.drop p) (s.drop i) := by
  rw [drop_at hi]
  cases h : P[p]? with
  | none =>
    rw [List.drop_eq_nil_of_le (List.getElem?_eq_none_iff.1 h), Mat.nil_iff]; simp
  | some a =>
    obtain ⟨h1, h2, h3⟩ := hp a h
    rw [drop_at h, Mat.one_iff h1]
    simp [h2, h3]

theorem PSt.back {P s : List UInt8} {A : Prop} {q behind p i : Nat} (H : PSt P s A (some q) behind p i) (hi : i < s.length) (h : ¬ Mat (P.drop p) (s.drop i)) :
    PSt P s A (some q) (behind + 1) (q + 1) (behind + 1) := by
  obtain ⟨h1, h2, h3, h4⟩ := H.seg q rfl
  refine ⟨by have := H.hp; omega, by omega, ?_, ?_⟩
  · rw [H.out]
    simp only [h, false_or]
    constructor
    · rintro ⟨q', hq, k, hk, hk2, h5⟩
      cases hq
      by_cases hk3 : k = behind + 1
      · subst hk3; exact Or.inl h5
      · exact Or.inr ⟨q, rfl, k, by omega, hk2, h5⟩
    · rintro (h5 | ⟨q', hq, k, hk, hk2, h5⟩)
      · exact ⟨q, rfl, behind + 1, by omega, by omega, h5⟩
      · cases hq; exact ⟨q, rfl, k, by omega, hk2, h5⟩
  · rintro q' hq; cases hq
    exact ⟨by omega, by omega, by omega, fun j h5 h6 => by omega⟩

theorem PSt.lost {P s : List UInt8} {A : Prop} {behind p i : Nat} (H : PSt P s A none behind p i) (h : ¬ Mat (P.drop p) (s.drop i)) : ¬ A := by
  rw [H.out]; simp [h]

theorem PSt.ends {P s : List UInt8} {A : Prop} {star : Option Nat} {behind p : Nat} (H : PSt P s A star behind p s.length) : A ↔ ∀ x ∈ P.drop p, x = 42 := by
  rw [H.out, List.drop_eq_nil_of_le (Nat.le_refl _), Mat.nil_all]
  constructor
  · rintro (h | ⟨q, hq, k, hk, hk2, h⟩)
    · exact h
    · obtain ⟨j, hj, hj2, _⟩ := H.spare hq hk hk2 h; omega
  · exact Or.inl

/-- how much is left to do -/
def left (P s : List UInt8) (star : Option Nat) (behind i : Nat) : Nat :=
  (match star with | none => P.length + 1 | some q => P.length - q) * ((s.length + 2) * (s.length + 2)) + (s.length + 1 - behind) * (s.length + 2) + (s.length - i)

theorem Mat.all (s : List UInt8) : Mat [42] s := Mat.star_drop s.length s (by simpa using Mat.nil)
theorem Mat.self (s : List UInt8) : Mat (s ++ [42]) s := by
  refine Mat.app.2 ⟨s.length, by simp, ?_, by simpa using Mat.none Mat.nil⟩
  rw [List.take_length]
  induction s with
  | nil => exact .nil
  | cons c s ih =>
    by_cases hc : c = 42
    · subst hc; exact .more (.none ih)
    · exact .one hc (Or.inr rfl) ih

end Go.Nam
