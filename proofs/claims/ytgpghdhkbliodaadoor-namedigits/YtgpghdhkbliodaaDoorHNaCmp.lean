/- Names compared: the program's Compare and the document's. -/
import Derived.Test.YtgpghdhkbliodaaDoorHOrders
import Derived.Test.YtgpghdhkbliodaaDoorHBytes
import Derived.BigQuiet
import Derived.Deep.QuietTactic
import Derived.Handy
import Derived.Lib.Bytealg

namespace Go.Proofs.YtgpghdhkbliodaaDoor
set_option maxRecDepth 20000
open Go Go.RowKit
set_option linter.unusedVariables false
set_option linter.unusedSimpArgs false
/-- a number's bytes, the lowest first -/
def nb (x j : Nat) : Nat := x / 256 ^ j % 256
/-- an entry's bytes -/
def entF (i : Nat) (s : ByteArray) (j : Nat) : Nat :=
  if j < 4 then nb i j else if j < 6 then nb s.size (j - 4) else if j < 8 then 0 else if j < 8 + s.size then tbyte s (j - 8) else 0
theorem bytes32_nb (x : Nat) (w : World) : Calls Tryd.prog 24 #[.int .u32 (x : Int)] w fun e w' => e = .returned (.agg (va 4 (iv .u8 (nb x)))) ∧ Below w.heap.size w w' := by
  have h : va 4 (iv .u8 (nb x)) = #[.int .u8 ((x % 256 : Nat) : Int), .int .u8 ((x / 256 % 256 : Nat) : Int), .int .u8 ((x / 65536 % 256 : Nat) : Int), .int .u8 ((x / 16777216 % 256 : Nat) : Int)] := by
    show #[iv .u8 (nb x) 0, iv .u8 (nb x) 1, iv .u8 (nb x) 2, iv .u8 (nb x) 3] = _
    simp [iv, nb]
  rw [h]
  exact bytes32_any x w
theorem bytes16_nb (x : Nat) (w : World) : Calls Tryd.prog 25 #[.int .u16 (x : Int)] w fun e w' => e = .returned (.agg (va 2 (iv .u8 (nb x)))) ∧ Below w.heap.size w w' := by
  have h : va 2 (iv .u8 (nb x)) = #[.int .u8 ((x % 256 : Nat) : Int), .int .u8 ((x / 256 % 256 : Nat) : Int)] := by
    show #[iv .u8 (nb x) 0, iv .u8 (nb x) 1] = _
    simp [iv, nb]
  rw [h]
  exact bytes16_any x w
theorem wrap_u32 (i : Nat) (h : i < 4294967296) : IntKind.u32.wrap (i : Int) = (i : Int) := by
  unfold IntKind.wrap
  simp only [IntKind.bits, IntKind.signed]
  have : ((i : Int)) % (2 ^ 32) = (i : Int) := by omega
  simp [this]
  omega
theorem wrap_u16 (i : Nat) (h : i < 65536) : IntKind.u16.wrap (i : Int) = (i : Int) := by
  unfold IntKind.wrap
  simp only [IntKind.bits, IntKind.signed]
  have : ((i : Int)) % (2 ^ 16) = (i : Int) := by omega
  simp [this]
  omega
theorem sizeB4 : (Tryd.prog.info? 57).map (·.size) = some 4 := by kernel_rfl
theorem sizeB2 : (Tryd.prog.info? 60).map (·.size) = some 2 := by kernel_rfl
theorem copy_blk {w : World} {ty : TypeId} {g o dLen dCap g2 n sCap N : Nat} {T T2 : TypeId} {p f : Nat → Nat} (hb : Blk w g T (va N (iv .u8 p))) (hb2 : Blk w g2 T2 (va n (iv .u8 f))) (hn : n ≤ dLen) (hfit : o + n ≤ N) :
    (Builtin.copy_ #[64, 64] ty #[.slice (some ⟨g, o, none⟩) dLen dCap, .slice (some ⟨g2, 0, none⟩) n sCap]).run Tryd.prog w = .ok (goInt n) (w.setRow g (va N (iv .u8 (putAt p o n f)))) := by
  have hl : (byL f n).length = n := byL_length f n
  have h := run_copy_row (P := Tryd.prog) w 64 64 ty 5 g o dLen dCap ⟨g2, 0, none⟩ n sCap _ T (byL f n) Tryd.underlying64 ksizeU8 hb (by rw [hl]; show n = min n dLen; omega)
    (fun j v hv => by
      have hj : j < n := by have := (List.getElem?_eq_some_iff.1 hv).1; rw [hl] at this; exact this
      rw [byL_at f n j hj] at hv
      cases hv
      rw [show (⟨g2, 0, none⟩ : Addr).add j = ⟨g2, j, none⟩ from by rcases j with _ | j <;> simp [Addr.add]]
      exact hb2.cv hj) (by rw [hl, va_size]; exact hfit) (mem_iv_one _ _ _)
  rw [hl] at h
  rw [h, ← splice_put N o n p f hfit]
  unfold splice
  rw [hl, List.append_assoc]
theorem zero_e64 (w : World) : (zeroValue 63).run Tryd.prog w = .ok (.agg (va 64 (iv .u8 fun _ => 0))) w := by
  have h : (Tryd.prog.info? 63).map (·.zero) = some (some (.agg (va 64 (iv .u8 fun _ => 0)))) := by kernel_rfl
  cases hq : Tryd.prog.info? 63 with
  | none => simp [hq] at h
  | some i =>
    have hz : i.zero = some (.agg (va 64 (iv .u8 fun _ => 0))) := by simpa [hq] using h
    simp [zeroValue, typeInfo, hq, hz]
theorem put_ent (i : Nat) (s : ByteArray) (j : Nat) : putAt (putAt (putAt (fun _ => 0) 0 4 (nb i)) 4 2 (nb s.size)) 8 s.size (tbyte s) j = entF i s j := by
  unfold putAt entF
  by_cases h0 : j < 4
  · rw [if_pos h0, if_neg (by omega), if_neg (by omega), if_pos (by omega), Nat.sub_zero]
  · by_cases h1 : j < 6
    · rw [if_neg h0, if_pos h1, if_neg (by omega), if_pos (by omega)]
    · rw [if_neg h0, if_neg h1]
      by_cases h2 : j < 8
      · rw [if_pos h2, if_neg (by omega), if_neg (by omega), if_neg (by omega)]
      · rw [if_neg h2]
        by_cases h3 : j < 8 + s.size
        · rw [if_pos h3, if_pos (by omega)]
        · rw [if_neg h3, if_neg (by omega), if_neg (by omega), if_neg (by omega)]
theorem gs_eq {l : Array Bool} {i n : Nat} (h : l.size = n) (hi : i < n) : (l.setIfInBounds i true).getD i false = true := by
  simp [Array.getD, h, hi]
theorem gs_ne {l : Array Bool} {i j : Nat} (h : i ≠ j) : (l.setIfInBounds i true).getD j false = l.getD j false := by
  rw [Array.getD_eq_getD_getElem?, Array.getD_eq_getD_getElem?, Array.getElem?_setIfInBounds, if_neg h]
abbrev lkV (i : Int) (s : ByteArray) : Value := .agg #[.int .i64 i, .string s]
/-- what has been done of the region with two calls and two boxes -/
def encR (w : World) (i : Nat) (s : ByteArray) (l : Array Bool) (a : Act) (W : World) : Prop :=
  ∃ (x25 x30 x5 x6 : Value) (g5 g6 : Nat), a = ({ tmps := #[lkV (i : Int) s, Value.pointer (some ⟨w.heap.size, 0, none⟩), Value.string ⟨#[]⟩, Value.int .i64 0, Value.int .i64 0, x5, x6, undef, Value.pointer (some ⟨w.heap.size, 0, none⟩), Value.int .i64 (i : Int), Value.bool false, Value.bool false, Value.pointer (some ⟨w.heap.size, 0, none⟩), Value.int .i64 (i : Int), Value.bool false, Value.bool false, Value.pointer (some ⟨w.heap.size, 1, none⟩), Value.string s, Value.int .i64 0, Value.int .i64 0, Value.bool false, undef, Value.pointer (some ⟨w.heap.size, 0, none⟩), Value.int .i64 (i : Int), Value.int .u32 (i : Int), x25, Value.pointer (some ⟨w.heap.size, 1, none⟩), Value.string s, Value.int .i64 (s.size : Int), Value.int .u16 (s.size : Int), x30, undef, undef, undef, undef, undef, undef, undef, undef, undef, undef, undef, undef], defers := [] } : Act) ∧ Hid (l.size = 13 ∧ Blk W w.heap.size 23 #[.int .i64 (i : Int), .string s] ∧ Below w.heap.size w W ∧ (l.getD 3 false = true → x25 = .agg (va 4 (iv .u8 (nb i)))) ∧ (l.getD 8 false = true → x30 = .agg (va 2 (iv .u8 (nb s.size)))) ∧
    (l.getD 9 false = true → x5 = .pointer (some ⟨g5, 0, none⟩) ∧ w.heap.size < g5 ∧ Blk W g5 57 (va 4 (iv .u8 (if l.getD 11 false then nb i else fun _ => 0)))) ∧
    (l.getD 10 false = true → x6 = .pointer (some ⟨g6, 0, none⟩) ∧ w.heap.size < g6 ∧ Blk W g6 60 (va 2 (iv .u8 (if l.getD 12 false then nb s.size else fun _ => 0)))) ∧
    (l.getD 9 false = true → l.getD 10 false = true → g5 ≠ g6))
section
variable (s : ByteArray)
set_option maxHeartbeats 4000000 in
theorem encode_ok (i : Nat) (h1 : 1 ≤ i) (h2 : i ≤ 4096) (hn : isName s.data.toList = true) (w : World) :
    Calls Tryd.prog 7 #[lkV (i : Int) s] w fun e w' => e = .returned (.tuple #[.string (strN (entF i s) 64), .int .i64 0]) ∧ Below w.heap.size w w' := by
  have h56 : s.size ≤ 56 := by rw [Lib.size_eq]; exact (isName_len hn).2
  have HB : Hid (Below w.heap.size w (w.alloc (.cells #[.int .i64 (i : Int), .string s] 23))) := below_new1 _ _
  have HBX : Hid (Blk (w.alloc (.cells #[.int .i64 (i : Int), .string s] 23)) w.heap.size 23 #[.int .i64 (i : Int), .string s]) := Blk.new _ _ _
  have HC : Hid (∀ w : World, Calls Tryd.prog 23 #[.string s] w fun e w' => e = .returned (.int .i64 0) ∧ Below w.heap.size w w') := fun w => by
    have := check_any s w
    rw [show nameE s.data.toList = 0 from by unfold nameE; rw [hn]; rfl] at this
    exact this
  clear hn
  have i1 : ¬ ((i : Int) < 1) := by omega
  have i2 : ¬ ((4096 : Int) < (i : Int)) := by omega
  have hw1 : IntKind.u32.wrap (i : Int) = (i : Int) := wrap_u32 i (by omega)
  have hw2 : IntKind.u16.wrap (s.size : Int) = (s.size : Int) := wrap_u16 s.size (by omega)
  go_enter Tryd.func7, Tryd.ntmps7
  go_wp2_with fail
  refine (HC.out _).mono ?_
  intro e w2 hw2
  obtain ⟨he2, hw2⟩ := hw2
  subst he2
  have HB2 : Hid (Below w.heap.size w w2 ∧ Blk w2 w.heap.size 23 #[.int .i64 (i : Int), .string s]) := ⟨HB.out.trans (hw2.mono HB.out.size), HBX.out.below hw2 (by simp)⟩
  clear hw2 HB HBX HC
  go_wp2_with fail
  refine wp_region_mach (fun W => Blk W w.heap.size 23 #[.int .i64 (i : Int), .string s]) (fun i l => match i with | 3 => true | 8 => true | 9 => !l.getD 9 false && !l.getD 11 false | 10 => !l.getD 10 false && !l.getD 12 false | 11 => l.getD 3 false && l.getD 9 false | 12 => l.getD 8 false && l.getD 10 false | _ => false)
    (fun l => l.getD 3 false && l.getD 8 false && l.getD 9 false && l.getD 10 false && l.getD 11 false && l.getD 12 false) [0, 1, 2, 4, 5, 6, 7] 6 (encR w i s) (by kernel_rfl) (by kernel_rfl) HB2.out.2.drew ?_ ?_ ?_
  · refine ⟨_, Value.pointer (some ⟨w.heap.size, 0, none⟩), rfl, Or.inl ⟨by rfl, fun W hW => by go_simp⟩, ?_⟩
    simp only [Act.put, List.setIfInBounds_toArray, List.set_cons_zero, List.set_cons_succ]
    refine ⟨_, Value.int .i64 (i : Int), rfl, Or.inl ⟨by rfl, fun W hW => by have hW1 : W.cell? ⟨w.heap.size, 0, none⟩ = some (.int .i64 (i : Int)) := hW.cell 0; go_simp⟩, ?_⟩
    simp only [Act.put, List.setIfInBounds_toArray, List.set_cons_zero, List.set_cons_succ]
    refine ⟨_, Value.int .u32 (i : Int), rfl, Or.inl ⟨by rfl, fun W hW => by go_simp⟩, ?_⟩
    simp only [Act.put, List.setIfInBounds_toArray, List.set_cons_zero, List.set_cons_succ]
    refine ⟨_, Value.pointer (some ⟨w.heap.size, 1, none⟩), rfl, Or.inl ⟨by rfl, fun W hW => by go_simp⟩, ?_⟩
    simp only [Act.put, List.setIfInBounds_toArray, List.set_cons_zero, List.set_cons_succ]
    refine ⟨_, Value.string s, rfl, Or.inl ⟨by rfl, fun W hW => by have hW1 : W.cell? ⟨w.heap.size, 1, none⟩ = some (.string s) := hW.cell 1; go_simp⟩, ?_⟩
    simp only [Act.put, List.setIfInBounds_toArray, List.set_cons_zero, List.set_cons_succ]
    refine ⟨_, Value.int .i64 (s.size : Int), rfl, Or.inl ⟨by rfl, fun W hW => by go_simp⟩, ?_⟩
    simp only [Act.put, List.setIfInBounds_toArray, List.set_cons_zero, List.set_cons_succ]
    refine ⟨_, Value.int .u16 (s.size : Int), rfl, Or.inl ⟨by rfl, fun W hW => by go_simp⟩, ?_⟩
    simp only [Act.put, List.setIfInBounds_toArray, List.set_cons_zero, List.set_cons_succ]
    exact ⟨undef, undef, undef, undef, 0, 0, rfl, rfl, HB2.out.2.drew, HB2.out.1.drew, fun h => absurd (show false = true from h) (by decide), fun h => absurd (show false = true from h) (by decide), fun h => absurd (show false = true from h) (by decide), fun h => absurd (show false = true from h) (by decide), fun h => absurd (show false = true from h) (by decide)⟩
  · intro j l a W hp hR
    obtain ⟨x25, x30, x5, x6, g5, g6, rfl, H⟩ := hR
    have hj : j = 3 ∨ j = 8 ∨ j = 9 ∨ j = 10 ∨ j = 11 ∨ j = 12 := by
      split at hp <;> simp_all
    obtain ⟨hsz, hbox, hbel, h3, h8, h9, h10, hne⟩ := H.out
    have HS : Hid (W.heap.size = W.heap.size) := rfl
    clear H
    rcases hj with rfl | rfl | rfl | rfl | rfl | rfl
    · clear hp
      simp only [List.cons_append, List.nil_append, List.append_nil, List.filterMap_cons, List.filterMap_nil, List.getElem?_toArray, List.getElem?_cons_zero, List.getElem?_cons_succ]
      go_wp2_with fail
      refine (bytes32_nb i _).mono ?_
      intro e w3 hw3
      obtain ⟨he3, hb3⟩ := hw3
      subst he3
      have HX : Hid (Blk w3 w.heap.size 23 #[.int .i64 (i : Int), .string s]) := hbox.below hb3 hbox.lt
      have HR : Hid (_ ∧ _ ∧ _ ∧ _ ∧ _ ∧ _) := ⟨hsz, hbel.trans (hb3.mono hbel.size), h8, fun h => (⟨(h9 h).1, (h9 h).2.1, (h9 h).2.2.below hb3 (h9 h).2.2.lt⟩ : _ ∧ _ ∧ Blk w3 g5 _ _), fun h => (⟨(h10 h).1, (h10 h).2.1, (h10 h).2.2.below hb3 (h10 h).2.2.lt⟩ : _ ∧ _ ∧ Blk w3 g6 _ _), hne⟩
      clear hbox hbel h3 h8 h9 h10 hne hb3
      go_wp2_with fail
      refine ⟨rfl, HX.out, _, x30, x5, x6, g5, g6, rfl, ?_⟩
      obtain ⟨hsz, hbel, h8, h9, h10, hne⟩ := HR.out
      refine ⟨by simpa using hsz, HX.out, hbel, fun _ => rfl, ?_, ?_, ?_, ?_⟩
      · rw [gs_ne (by decide)]; exact h8
      · rw [gs_ne (by decide), gs_ne (by decide)]; exact h9
      · rw [gs_ne (by decide), gs_ne (by decide)]; exact h10
      · rw [gs_ne (by decide), gs_ne (by decide)]; exact hne
    · clear hp
      simp only [List.cons_append, List.nil_append, List.append_nil, List.filterMap_cons, List.filterMap_nil, List.getElem?_toArray, List.getElem?_cons_zero, List.getElem?_cons_succ]
      go_wp2_with fail
      refine (bytes16_nb s.size _).mono ?_
      intro e w3 hw3
      obtain ⟨he3, hb3⟩ := hw3
      subst he3
      have HX : Hid (Blk w3 w.heap.size 23 #[.int .i64 (i : Int), .string s]) := hbox.below hb3 hbox.lt
      have HR : Hid (_ ∧ _ ∧ _ ∧ _ ∧ _ ∧ _) := ⟨hsz, hbel.trans (hb3.mono hbel.size), h3, fun h => (⟨(h9 h).1, (h9 h).2.1, (h9 h).2.2.below hb3 (h9 h).2.2.lt⟩ : _ ∧ _ ∧ Blk w3 g5 _ _), fun h => (⟨(h10 h).1, (h10 h).2.1, (h10 h).2.2.below hb3 (h10 h).2.2.lt⟩ : _ ∧ _ ∧ Blk w3 g6 _ _), hne⟩
      clear hbox hbel h3 h8 h9 h10 hne hb3
      go_wp2_with fail
      refine ⟨rfl, HX.out, x25, _, x5, x6, g5, g6, rfl, ?_⟩
      obtain ⟨hsz, hbel, h3, h9, h10, hne⟩ := HR.out
      refine ⟨by simpa using hsz, HX.out, hbel, ?_, fun _ => rfl, ?_, ?_, ?_⟩
      · rw [gs_ne (by decide)]; exact h3
      · rw [gs_ne (by decide), gs_ne (by decide)]; exact h9
      · rw [gs_ne (by decide), gs_ne (by decide)]; exact h10
      · rw [gs_ne (by decide), gs_ne (by decide)]; exact hne
    · simp only [Bool.and_eq_true, Bool.not_eq_true'] at hp
      have hp11 := hp.2
      simp only [List.cons_append, List.nil_append, List.append_nil, List.filterMap_cons, List.filterMap_nil, List.getElem?_toArray, List.getElem?_cons_zero, List.getElem?_cons_succ]
      go_wp2_with fail
      refine ⟨rfl, hbox.alloc _, x25, x30, _, x6, W.heap.size, g6, rfl, ?_⟩
      refine ⟨by simpa using hsz, hbox.alloc _, hbel.alloc hbel.size _, ?_, ?_, fun _ => ⟨rfl, by have := hbox.lt; omega, by rw [gs_ne (by decide), hp11]; exact Blk.new _ _ _⟩, ?_, fun _ h => by rw [gs_ne (by decide)] at h; have := (h10 h).2.2.lt; omega⟩
      · rw [gs_ne (by decide)]; exact h3
      · rw [gs_ne (by decide)]; exact h8
      · rw [gs_ne (by decide), gs_ne (by decide)]; exact fun h => ⟨(h10 h).1, (h10 h).2.1, (h10 h).2.2.alloc _⟩
    · simp only [Bool.and_eq_true, Bool.not_eq_true'] at hp
      have hp11 := hp.2
      simp only [List.cons_append, List.nil_append, List.append_nil, List.filterMap_cons, List.filterMap_nil, List.getElem?_toArray, List.getElem?_cons_zero, List.getElem?_cons_succ]
      go_wp2_with fail
      refine ⟨rfl, hbox.alloc _, x25, x30, x5, _, g5, W.heap.size, rfl, ?_⟩
      refine ⟨by simpa using hsz, hbox.alloc _, hbel.alloc hbel.size _, ?_, ?_, ?_, fun _ => ⟨rfl, by have := hbox.lt; omega, by rw [gs_ne (by decide), hp11]; exact Blk.new _ _ _⟩, fun h _ => by rw [gs_ne (by decide)] at h; have := (h9 h).2.2.lt; omega⟩
      · rw [gs_ne (by decide)]; exact h3
      · rw [gs_ne (by decide)]; exact h8
      · rw [gs_ne (by decide), gs_ne (by decide)]; exact fun h => ⟨(h9 h).1, (h9 h).2.1, (h9 h).2.2.alloc _⟩
    · simp only [Bool.and_eq_true] at hp
      obtain rfl := h3 hp.1
      obtain ⟨rfl, hgl, hblk⟩ := h9 hp.2
      simp only [List.cons_append, List.nil_append, List.append_nil, List.filterMap_cons, List.filterMap_nil, List.getElem?_toArray, List.getElem?_cons_zero, List.getElem?_cons_succ]
      (refine wpList_store_row (by rfl) 57 _ _ (by rfl) (g5) (va 4 (iv .u8 (nb i))) (by rfl) (by rfl) 57 _ hblk (sizeB4.trans (by rw [va_size])) (by simp only [va_size]) (iv_one _ _ _) ?_; simp only [Act.put, List.setIfInBounds_toArray, List.set_cons_zero, List.set_cons_succ])
      refine ⟨rfl, hbox.other _ (by omega), _, x30, _, x6, g5, g6, rfl, ?_⟩
      refine ⟨by simpa using hsz, hbox.other _ (by omega), below_setRow hbel (by omega) _, fun _ => rfl, fun h => by rw [gs_ne (by decide)] at h; exact h8 h, fun _ => ⟨rfl, hgl, by rw [gs_eq hsz (by decide)]; exact hblk.set _⟩, fun h => by rw [gs_ne (by decide)] at h; rw [gs_ne (by decide)]; exact ⟨(h10 h).1, (h10 h).2.1, (h10 h).2.2.other _ (fun e => (hne hp.2 h) e.symm)⟩, fun h h' => by rw [gs_ne (by decide)] at h h'; exact hne h h'⟩
    · simp only [Bool.and_eq_true] at hp
      obtain rfl := h8 hp.1
      obtain ⟨rfl, hgl, hblk⟩ := h10 hp.2
      simp only [List.cons_append, List.nil_append, List.append_nil, List.filterMap_cons, List.filterMap_nil, List.getElem?_toArray, List.getElem?_cons_zero, List.getElem?_cons_succ]
      (refine wpList_store_row (by rfl) 60 _ _ (by rfl) (g6) (va 2 (iv .u8 (nb s.size))) (by rfl) (by rfl) 60 _ hblk (sizeB2.trans (by rw [va_size])) (by simp only [va_size]) (iv_one _ _ _) ?_; simp only [Act.put, List.setIfInBounds_toArray, List.set_cons_zero, List.set_cons_succ])
      refine ⟨rfl, hbox.other _ (by omega), x25, _, x5, _, g5, g6, rfl, ?_⟩
      refine ⟨by simpa using hsz, hbox.other _ (by omega), below_setRow hbel (by omega) _, fun h => by rw [gs_ne (by decide)] at h; exact h3 h, fun _ => rfl, fun h => by rw [gs_ne (by decide)] at h; rw [gs_ne (by decide)]; exact ⟨(h9 h).1, (h9 h).2.1, (h9 h).2.2.other _ (fun e => (hne h hp.2) e)⟩, fun _ => ⟨rfl, hgl, by rw [gs_eq hsz (by decide)]; exact hblk.set _⟩, fun h h' => by rw [gs_ne (by decide)] at h h'; exact hne h h'⟩
  · intro l a W hp hR
    obtain ⟨x25, x30, x5, x6, g5, g6, rfl, H⟩ := hR
    simp only [Bool.and_eq_true] at hp
    obtain ⟨⟨⟨⟨⟨p3, p8⟩, p9⟩, p10⟩, p11⟩, p12⟩ := hp
    obtain ⟨hsz, hbox, hbel, h3, h8, h9, h10, hne⟩ := H.out
    clear H
    obtain ⟨rfl, hg5, hk5⟩ := h9 p9
    obtain ⟨rfl, hg6, hk6⟩ := h10 p10
    have hn := hne p9 p10
    rw [p11, if_pos rfl] at hk5
    rw [p12, if_pos rfl] at hk6
    obtain rfl := h3 p3
    obtain rfl := h8 p8
    refine ⟨rfl, ?_⟩
    have HZ : Hid (_ ∧ _ ∧ _ ∧ _) := ⟨hbox, hbel, hk5, hk6⟩
    clear h3 h8 h9 h10 hne p3 p8 p9 p10 p11 p12 hsz hbox hbel hk5 hk6 l
    have HZ2 : Hid (Blk (W.alloc (.cells (va 64 (iv .u8 fun _ => 0)) 63)) W.heap.size 63 (va 64 (iv .u8 fun _ => 0)) ∧ Blk (W.alloc (.cells (va 64 (iv .u8 fun _ => 0)) 63)) w.heap.size 23 #[.int .i64 (i : Int), .string s] ∧ Below w.heap.size w (W.alloc (.cells (va 64 (iv .u8 fun _ => 0)) 63)) ∧ Blk (W.alloc (.cells (va 64 (iv .u8 fun _ => 0)) 63)) g5 57 (va 4 (iv .u8 (nb i))) ∧ Blk (W.alloc (.cells (va 64 (iv .u8 fun _ => 0)) 63)) g6 60 (va 2 (iv .u8 (nb s.size))) ∧ w.heap.size < W.heap.size ∧ g5 < W.heap.size ∧ g6 < W.heap.size) :=
      ⟨Blk.new _ _ _, HZ.out.1.alloc _, HZ.out.2.1.alloc HZ.out.2.1.size _, HZ.out.2.2.1.alloc _, HZ.out.2.2.2.alloc _, HZ.out.1.lt, HZ.out.2.2.1.lt, HZ.out.2.2.2.lt⟩
    have hz := zero_e64
    go_wp2_with fail
    generalize W.alloc (.cells (va 64 (iv .u8 fun _ => 0)) 63) = W7 at HZ2 ⊢
    generalize W.heap.size = g7 at HZ2 ⊢
    clear hz HZ
    have h7 : w.heap.size < g7 ∧ g5 < g7 ∧ g6 < g7 := HZ2.out.2.2.2.2.2
    have hc1 := fun ty => copy_blk (ty := ty) (o := 0) (dLen := 4) (dCap := 64) (sCap := 4) HZ2.out.1.drew HZ2.out.2.2.2.1.drew (by decide) (by decide)
    have HZ3 : Hid (_ ∧ _ ∧ _ ∧ _) := ⟨HZ2.out.1.drew.set (va 64 (iv .u8 (putAt (fun _ => 0) 0 4 (nb i)))), HZ2.out.2.1.drew.other (g := g7) (va 64 (iv .u8 (putAt (fun _ => 0) 0 4 (nb i)))) (by omega), HZ2.out.2.2.2.2.1.drew.other (g := g7) (va 64 (iv .u8 (putAt (fun _ => 0) 0 4 (nb i)))) (by omega), below_setRow HZ2.out.2.2.1.drew (Nat.le_of_lt h7.1) (va 64 (iv .u8 (putAt (fun _ => 0) 0 4 (nb i))))⟩
    go_region
    generalize W7.drew.setRow g7 (va 64 (iv .u8 (putAt (fun _ => 0) 0 4 (nb i)))) = W8 at HZ3 ⊢
    clear hc1 HZ2
    go_wp2_with fail
    have hc2 := fun ty => copy_blk (ty := ty) (o := 4) (dLen := 2) (dCap := 60) (sCap := 2) HZ3.out.1.drew HZ3.out.2.2.1.drew (by decide) (by decide)
    have HF : ∀ j, j < 64 → putAt (putAt (putAt (fun _ => 0) 0 4 (nb i)) 4 2 (nb s.size)) 8 s.size (tbyte s) j = entF i s j := fun j hj => put_ent i s j
    generalize putAt (fun _ => 0) 0 4 (nb i) = P1 at *
    have HZ4 : Hid (_ ∧ _ ∧ _) := ⟨HZ3.out.1.drew.set (va 64 (iv .u8 (putAt P1 4 2 (nb s.size)))), HZ3.out.2.1.drew.other (g := g7) (va 64 (iv .u8 (putAt P1 4 2 (nb s.size)))) (by omega), below_setRow HZ3.out.2.2.2.drew (Nat.le_of_lt h7.1) (va 64 (iv .u8 (putAt P1 4 2 (nb s.size))))⟩
    go_region
    generalize W8.drew.setRow g7 (va 64 (iv .u8 (putAt P1 4 2 (nb s.size)))) = W9 at HZ4 ⊢
    clear hc2 HZ3
    go_wp2_with fail
    have hc3 := fun ty => run_copy_text (P := Tryd.prog) W9.drew 64 9 ty 5 g7 8 56 56 s _ 63 s.size Tryd.underlying64 ksizeU8 HZ4.out.1.drew (by show _ = min _ _; omega) (by rw [va_size]; omega)
    generalize HP2 : putAt P1 4 2 (nb s.size) = P2 at *
    have hcell : W9.cell? ⟨w.heap.size, 1, none⟩ = some (.string s) := HZ4.out.2.1.cell 1
    have hcell2 : W9.drew.cell? ⟨w.heap.size, 1, none⟩ = some (.string s) := hcell
    simp only [splice_put 64 8 s.size P2 (tbyte s) (by omega)] at hc3
    have HZ5 : Hid (_ ∧ _) := ⟨HZ4.out.1.drew.set (va 64 (iv .u8 (putAt P2 8 s.size (tbyte s)))), below_setRow HZ4.out.2.2.drew (Nat.le_of_lt h7.1) (va 64 (iv .u8 (putAt P2 8 s.size (tbyte s))))⟩
    go_region
    generalize W9.drew.setRow g7 (va 64 (iv .u8 (putAt P2 8 s.size (tbyte s)))) = W10 at HZ5 ⊢
    clear hc3 hcell hcell2 HZ4
    have hr := run_bytes_text (P := Tryd.prog) W10 64 5 9 Tryd.underlying64 Tryd.underlying5 Tryd.underlying9 HZ5.out.1 0 64 64 (by omega)
    have HE : Hid (strN (fun j => putAt P2 8 s.size (tbyte s) (0 + j)) 64 = strN (entF i s) 64) := strN_congr fun j hj => by
      rw [Nat.zero_add]
      exact HF j hj
    generalize strN (fun j => putAt P2 8 s.size (tbyte s) (0 + j)) 64 = tx at hr HE
    go_wp2_with fail
    go_ret2
    exact ⟨by rw [← HE.out]; rfl, HZ5.out.2⟩
end
end Go.Proofs.YtgpghdhkbliodaaDoor

namespace Go.Proofs.YtgpghdhkbliodaaDoor
set_option maxRecDepth 20000
open Go Go.RowKit
set_option linter.unusedVariables false
set_option linter.unusedSimpArgs false
set_option maxHeartbeats 4000000 in
theorem awake13_any (w : World) : Calls Tryd.prog 11 #[] w fun e w' => e = .returned (.bool true) ∧ Below w.heap.size w w' := by
  have HE : Hid (∀ w : World, Calls Tryd.prog 7 #[.agg #[.int .i64 1, .string ⟨#[97]⟩]] w fun e w' => e = .returned (.tuple #[.string (strN (entF 1 ⟨#[97]⟩) 64), .int .i64 0]) ∧ Below w.heap.size w w') := fun w => encode_ok ⟨#[97]⟩ 1 (by decide) (by decide) (by decide) w
  have HC1 : Hid (∀ w : World, Calls Tryd.prog 23 #[.string ⟨#[97]⟩] w fun e w' => e = .returned (.int .i64 0) ∧ Below w.heap.size w w') := fun w => check_any ⟨#[97]⟩ w
  have HC2 : Hid (∀ w : World, Calls Tryd.prog 23 #[.string ⟨#[47]⟩] w fun e w' => e = .returned (.int .i64 130) ∧ Below w.heap.size w w') := fun w => check_any ⟨#[47]⟩ w
  have hz := strN_size (entF 1 ⟨#[97]⟩) 64
  generalize strN (entF 1 ⟨#[97]⟩) 64 = tx at HE hz
  go_enter Tryd.func11, Tryd.ntmps11
  go_wp2_with fail
  refine (HE.out _).mono ?_
  intro e w2 hw2
  obtain ⟨he2, hw2⟩ := hw2
  subst he2
  go_wp2_with fail
  refine (HC1.out _).mono ?_
  intro e w3 hw3
  obtain ⟨he3, hw3⟩ := hw3
  subst he3
  have hb3 : Below w.heap.size w w3 := hw2.trans (hw3.mono hw2.size)
  clear hw2 hw3
  go_wp2_with fail
  refine (HC2.out _).mono ?_
  intro e w4 hw4
  obtain ⟨he4, hw4⟩ := hw4
  subst he4
  have HB4 : Hid (Below w.heap.size w w4) := hb3.trans (hw4.mono hb3.size)
  clear hb3 hw4
  go_wp2_with fail
  go_ret
  exact ⟨rfl, HB4.out⟩
end Go.Proofs.YtgpghdhkbliodaaDoor

namespace Go.Nam
open Go.Lib

def lexN : List Nat → List Nat → Int
  | [], [] => 0
  | [], _ :: _ => -1
  | _ :: _, [] => 1
  | a :: x, b :: y => if a < b then -1 else if b < a then 1 else lexN x y

theorem lexN_cons (a b : Nat) (x y : List Nat) : lexN (a :: x) (b :: y) = if a < b then -1 else if b < a then 1 else lexN x y := rfl

theorem lexN_flip : ∀ x y : List Nat, lexN y x = - lexN x y
  | [], [] => rfl
  | [], _ :: _ => rfl
  | _ :: _, [] => rfl
  | a :: x, b :: y => by
    have ih := lexN_flip x y
    simp only [lexN]
    repeat' split
    all_goals first | omega | rfl

theorem lexN_zero : ∀ x y : List Nat, lexN x y = 0 ↔ x = y
  | [], [] => by simp [lexN]
  | [], _ :: _ => by simp [lexN]
  | _ :: _, [] => by simp [lexN]
  | a :: x, b :: y => by
    have ih := lexN_zero x y
    simp only [lexN, List.cons.injEq]
    by_cases h1 : a < b
    · rw [if_pos h1]; constructor
      · intro h; cases h
      · rintro ⟨rfl, _⟩; omega
    · rw [if_neg h1]
      by_cases h2 : b < a
      · rw [if_pos h2]; constructor
        · intro h; cases h
        · rintro ⟨rfl, _⟩; omega
      · rw [if_neg h2, ih]
        have : a = b := by omega
        simp [this]

theorem lexN_one : ∀ x y : List Nat, lexN x y = -1 ∨ lexN x y = 0 ∨ lexN x y = 1
  | [], [] => by simp [lexN]
  | [], _ :: _ => by simp [lexN]
  | _ :: _, [] => by simp [lexN]
  | a :: x, b :: y => by
    have ih := lexN_one x y
    simp only [lexN]
    repeat' split
    all_goals first | omega | exact ih

theorem lexN_trans : ∀ x y z : List Nat, lexN x y ≤ 0 → lexN y z ≤ 0 → lexN x z ≤ 0 ∧ (lexN x z = 0 → lexN x y = 0 ∧ lexN y z = 0)
  | [], [], z, h1, h2 => ⟨h2, fun h => ⟨rfl, h⟩⟩
  | [], _ :: _, [], h1, h2 => by simp [lexN] at h2
  | [], _ :: _, _ :: _, h1, h2 => by simp [lexN]
  | _ :: _, [], _, h1, h2 => by simp [lexN] at h1
  | _ :: _, _ :: _, [], h1, h2 => by simp [lexN] at h2
  | a :: x, b :: y, c :: z, h1, h2 => by
    have ih := lexN_trans x y z
    simp only [lexN] at h1 h2 ⊢
    repeat' split at h1
    all_goals repeat' split at h2
    all_goals repeat' split
    all_goals first | omega | (have := ih (by omega) (by omega); omega)

/-- The library's order of bytes is this one. -/
theorem cmp_lex : ∀ x y : List UInt8, compareBytes x y = lexN (x.map (·.toNat)) (y.map (·.toNat))
  | [], [] => rfl
  | [], _ :: _ => rfl
  | _ :: _, [] => rfl
  | a :: x, b :: y => by
    have ih := cmp_lex x y
    simp only [compareBytes, List.map_cons, lexN, ih, UInt8.lt_iff_toNat_lt]

/-- of one length: the first that is unlike decides -/
theorem lexN_app_len : ∀ u v x y : List Nat, u.length = v.length → lexN (u ++ x) (v ++ y) = if lexN u v = 0 then lexN x y else lexN u v
  | [], [], x, y, _ => by simp [lexN]
  | [], _ :: _, _, _, h => by simp at h
  | _ :: _, [], _, _, h => by simp at h
  | a :: u, b :: v, x, y, h => by
    have ih := lexN_app_len u v x y (by simpa using h)
    simp only [List.cons_append, lexN]
    by_cases h1 : a < b
    · simp [h1]
    · by_cases h2 : b < a
      · simp [h1, h2]
      · simp [h1, h2, ih]

def dgt (c : UInt8) : Bool := 48 ≤ c.toNat && c.toNat ≤ 57
/-- how many digits a text begins with -/
def stN (l : List UInt8) : Nat := (l.takeWhile dgt).length
/-- digits without the zeros ahead -/
def bareL (l : List UInt8) : List UInt8 := l.dropWhile (· == 48)
/-- digits as numbers -/
def numC (x y : List UInt8) : Int := if (bareL x).length < (bareL y).length then -1 else if (bareL y).length < (bareL x).length then 1 else compareBytes (bareL x) (bareL y)

def byteC (a b : UInt8) : Int := if a < b then -1 else if b < a then 1 else 0

theorem stN_le (l : List UInt8) : stN l ≤ l.length := by
  unfold stN
  exact (List.takeWhile_sublist dgt).length_le

/-- where digits count as numbers: as far as one of both goes -/
def digF : Nat → List UInt8 → List UInt8 → Int
  | _, [], [] => 0
  | _, [], _ :: _ => -1
  | _, _ :: _, [] => 1
  | 0, _ :: _, _ :: _ => 0
  | f + 1, a :: x, b :: y =>
    if stN (a :: x) = 0 ∨ stN (b :: y) = 0 then (if byteC a b ≠ 0 then byteC a b else digF f x y)
    else (if numC ((a :: x).take (stN (a :: x))) ((b :: y).take (stN (b :: y))) ≠ 0 then numC ((a :: x).take (stN (a :: x))) ((b :: y).take (stN (b :: y)))
      else digF f ((a :: x).drop (stN (a :: x))) ((b :: y).drop (stN (b :: y))))

/-- a text in numbers: a stretch of digits as 48, how many are left without the zeros ahead, and these; another byte as itself -/
def encF : Nat → List UInt8 → List Nat
  | _, [] => []
  | 0, _ :: _ => []
  | f + 1, a :: x => if stN (a :: x) = 0 then a.toNat :: encF f x
    else 48 :: (bareL ((a :: x).take (stN (a :: x)))).length :: ((bareL ((a :: x).take (stN (a :: x)))).map (·.toNat) ++ encF f ((a :: x).drop (stN (a :: x))))

theorem encF_more : ∀ (f g : Nat) (l : List UInt8), l.length ≤ f → l.length ≤ g → encF f l = encF g l
  | _, _, [], _, _ => by simp [encF]
  | 0, _, _ :: _, h, _ => by simp at h
  | _, 0, _ :: _, _, h => by simp at h
  | f + 1, g + 1, a :: x, hf, hg => by
    simp only [encF]
    simp only [List.length_cons] at hf hg
    split
    · rw [encF_more f g x (by omega) (by omega)]
    · rename_i h0
      rw [encF_more f g ((a :: x).drop (stN (a :: x))) (by rw [List.length_drop, List.length_cons]; omega) (by rw [List.length_drop, List.length_cons]; omega)]

theorem stN_dgt {a : UInt8} {x : List UInt8} (h : stN (a :: x) ≠ 0) : 48 ≤ a.toNat ∧ a.toNat ≤ 57 := by
  unfold stN at h
  by_cases ha : dgt a = true
  · simpa [dgt] using ha
  · simp [List.takeWhile, ha] at h

theorem stN_not {a : UInt8} {x : List UInt8} (h : stN (a :: x) = 0) : a.toNat < 48 ∨ 57 < a.toNat := by
  unfold stN at h
  by_cases ha : dgt a = true
  · simp [List.takeWhile, ha] at h
  · simp [dgt] at ha; omega

theorem numC_lex (x y : List UInt8) (u v : List Nat) :
    lexN ((bareL x).length :: ((bareL x).map (·.toNat) ++ u)) ((bareL y).length :: ((bareL y).map (·.toNat) ++ v)) = if numC x y ≠ 0 then numC x y else lexN u v := by
  rw [lexN_cons]
  unfold numC
  by_cases h1 : (bareL x).length < (bareL y).length
  · simp [h1]
  · by_cases h2 : (bareL y).length < (bareL x).length
    · simp [h1, h2]
    · rw [if_neg h1, if_neg h2, lexN_app_len _ _ _ _ (by simp; omega), ← cmp_lex, if_neg h1, if_neg h2]
      by_cases h3 : compareBytes (bareL x) (bareL y) = 0
      · simp [h3]
      · simp [h3]

theorem digF_lex : ∀ (f : Nat) (x y : List UInt8), x.length ≤ f → y.length ≤ f → digF f x y = lexN (encF f x) (encF f y)
  | _, [], [], _, _ => by simp [digF, encF, lexN]
  | 0, [], _ :: _, _, h => by simp at h
  | f + 1, [], b :: y, _, _ => by
    simp only [digF, encF]
    split <;> rfl
  | 0, _ :: _, [], h, _ => by simp at h
  | f + 1, a :: x, [], _, _ => by
    simp only [digF, encF]
    split <;> rfl
  | 0, _ :: _, _ :: _, h, _ => by simp at h
  | f + 1, a :: x, b :: y, hx, hy => by
    simp only [List.length_cons] at hx hy
    simp only [digF, encF]
    by_cases ha : stN (a :: x) = 0
    · by_cases hb : stN (b :: y) = 0
      · rw [if_pos (Or.inl ha), if_pos ha, if_pos hb, lexN_cons, ← digF_lex f x y (by omega) (by omega)]
        unfold byteC
        simp only [UInt8.lt_iff_toNat_lt]
        repeat' split
        all_goals first | rfl | omega
      · rw [if_pos (Or.inl ha), if_pos ha, if_neg hb, lexN_cons]
        have h1 := stN_not ha
        have h2 := stN_dgt hb
        unfold byteC
        simp only [UInt8.lt_iff_toNat_lt]
        rcases h1 with h1 | h1
        · rw [if_pos (show a.toNat < b.toNat by omega), if_pos (show a.toNat < 48 by omega)]; rfl
        · rw [if_neg (show ¬ a.toNat < b.toNat by omega), if_pos (show b.toNat < a.toNat by omega), if_neg (show ¬ a.toNat < 48 by omega), if_pos (show 48 < a.toNat by omega)]; rfl
    · by_cases hb : stN (b :: y) = 0
      · rw [if_pos (Or.inr hb), if_neg ha, if_pos hb, lexN_cons]
        have h1 := stN_not hb
        have h2 := stN_dgt ha
        unfold byteC
        simp only [UInt8.lt_iff_toNat_lt]
        rcases h1 with h1 | h1
        · rw [if_neg (show ¬ a.toNat < b.toNat by omega), if_pos (show b.toNat < a.toNat by omega), if_neg (show ¬ 48 < b.toNat by omega), if_pos (show b.toNat < 48 by omega)]; rfl
        · rw [if_pos (show a.toNat < b.toNat by omega), if_pos (show 48 < b.toNat by omega)]; rfl
      · rw [if_neg (by simp [ha, hb]), if_neg ha, if_neg hb, lexN_cons, if_neg (Nat.lt_irrefl _), if_neg (Nat.lt_irrefl _), numC_lex,
          digF_lex f _ _ (by rw [List.length_drop, List.length_cons]; omega) (by rw [List.length_drop, List.length_cons]; omega)]

def encN (l : List UInt8) : List Nat := encF l.length l
/-- Digits: of all the same by the bytes. -/
def digC (a b : List UInt8) : Int := if lexN (encN a) (encN b) ≠ 0 then lexN (encN a) (encN b) else compareBytes a b

theorem digF_enc (f : Nat) (x y : List UInt8) (hx : x.length ≤ f) (hy : y.length ≤ f) : digF f x y = lexN (encN x) (encN y) := by
  rw [digF_lex f x y hx hy, encF_more f x.length x hx (Nat.le_refl _), encF_more f y.length y hy (Nat.le_refl _)]; rfl

theorem map_inj {a b : List UInt8} (h : a.map (·.toNat) = b.map (·.toNat)) : a = b := by
  induction a generalizing b with
  | nil => cases b with
    | nil => rfl
    | cons => simp at h
  | cons x a ih => cases b with
    | nil => simp at h
    | cons y b =>
      simp only [List.map_cons, List.cons.injEq] at h
      rw [ih h.2, UInt8.toNat_inj.1 h.1]

theorem cmp_zero {a b : List UInt8} : compareBytes a b = 0 ↔ a = b := by
  rw [cmp_lex, lexN_zero]
  constructor
  · exact map_inj
  · rintro rfl; rfl

theorem cmp_flip (a b : List UInt8) : compareBytes b a = - compareBytes a b := by rw [cmp_lex, cmp_lex, lexN_flip]

theorem digC_flip (a b : List UInt8) : digC b a = - digC a b := by
  unfold digC
  rw [lexN_flip (encN a) (encN b), cmp_flip a b]
  by_cases h : lexN (encN a) (encN b) = 0
  · simp [h]
  · rw [if_pos (by omega), if_pos h]

theorem digC_zero (a b : List UInt8) : digC a b = 0 ↔ a = b := by
  unfold digC
  by_cases h : lexN (encN a) (encN b) = 0
  · rw [if_neg (by simp [h]), cmp_zero]
  · rw [if_pos h]
    constructor
    · intro h2; exact absurd h2 h
    · rintro rfl; exact absurd ((lexN_zero _ _).2 rfl) h

theorem digC_trans (a b c : List UInt8) (h1 : digC a b ≤ 0) (h2 : digC b c ≤ 0) : digC a c ≤ 0 := by
  unfold digC at *
  have T := lexN_trans (encN a) (encN b) (encN c)
  have U := lexN_trans (a.map (·.toNat)) (b.map (·.toNat)) (c.map (·.toNat))
  rw [← cmp_lex, ← cmp_lex, ← cmp_lex] at U
  by_cases e1 : lexN (encN a) (encN b) = 0
  · rw [if_neg (by simp [e1])] at h1
    by_cases e2 : lexN (encN b) (encN c) = 0
    · rw [if_neg (by simp [e2])] at h2
      have := T (by omega) (by omega)
      by_cases e3 : lexN (encN a) (encN c) = 0
      · rw [if_neg (by simp [e3])]; exact (U h1 h2).1
      · rw [if_pos e3]; exact this.1
    · rw [if_pos e2] at h2
      have := T (by omega) h2
      rw [if_pos (fun h => e2 (this.2 h).2)]; exact this.1
  · rw [if_pos e1] at h1
    by_cases e2 : lexN (encN b) (encN c) = 0
    · have := T h1 (by omega)
      rw [if_pos (fun h => e1 (this.2 h).1)]; exact this.1
    · rw [if_pos e2] at h2
      have := T h1 h2
      rw [if_pos (fun h => e1 (this.2 h).1)]; exact this.1

theorem cmp_one (a b : List UInt8) : compareBytes a b = -1 ∨ compareBytes a b = 0 ∨ compareBytes a b = 1 := by rw [cmp_lex]; exact lexN_one _ _
theorem digC_one (a b : List UInt8) : digC a b = -1 ∨ digC a b = 0 ∨ digC a b = 1 := by
  unfold digC
  split
  · exact lexN_one _ _
  · exact cmp_one _ _
end Go.Nam

namespace Go.Proofs.YtgpghdhkbliodaaDoor
set_option maxRecDepth 20000
open Go Go.RowKit Go.Nam
set_option linter.unusedVariables false
set_option linter.unusedSimpArgs false
theorem compare_any (a b : ByteArray) (w : World) :
    Calls Tryd.prog 35 #[.string a, .string b] w fun e w' => e = .returned (.int .i64 (Lib.compareBytes a.data.toList b.data.toList)) ∧ w' = w := by
  have HC := scompare_any a b
  generalize Lib.compareBytes a.data.toList b.data.toList = c at HC
  go_enter Tryd.func35, Tryd.ntmps35
  go_wp2_with (first | (go_at_call 55; refine (HC _).mono ?_; rintro e w' ⟨rfl, rfl⟩))
  go_ret
  exact ⟨rfl, rfl⟩
theorem dropAt {l : List UInt8} {i : Nat} {c : UInt8} (h : l[i]? = some c) : l.drop i = c :: l.drop (i + 1) := by
  obtain ⟨h1, h2⟩ := List.getElem?_eq_some_iff.1 h
  rw [← h2]; exact List.drop_eq_getElem_cons h1
theorem cmp_drop_nil {a b : List UInt8} (i : Nat) (hb : i < b.length) (ha : a.length ≤ i) : Lib.compareBytes (a.drop i) (b.drop i) = -1 := by
  rw [List.drop_eq_nil_of_le ha, List.drop_eq_getElem_cons hb]; rfl
theorem cmp_nil_drop {a b : List UInt8} (i : Nat) (ha : i < a.length) (hb : b.length ≤ i) : Lib.compareBytes (a.drop i) (b.drop i) = 1 := by
  rw [List.drop_eq_nil_of_le hb, List.drop_eq_getElem_cons ha]; rfl
theorem cmp_nil_nil {a b : List UInt8} (i : Nat) (ha : a.length ≤ i) (hb : b.length ≤ i) : Lib.compareBytes (a.drop i) (b.drop i) = 0 := by
  rw [List.drop_eq_nil_of_le hb, List.drop_eq_nil_of_le ha]; rfl
set_option maxHeartbeats 4000000 in
theorem rcompare_any (a b : ByteArray) (ha : a.size ≤ 4611686018427387904) (hb : b.size ≤ 4611686018427387904) (w : World) :
    Calls Tryd.prog 39 #[.string a, .string b] w fun e w' => e = .returned (.int .i64 (Lib.compareBytes a.data.toList b.data.toList)) ∧ ∃ n, w' = w.drewN n := by
  have HAL : Hid (a.size = a.data.toList.length) := Lib.size_eq a
  have HBL : Hid (b.size = b.data.toList.length) := Lib.size_eq b
  generalize hc : Lib.compareBytes a.data.toList b.data.toList = c
  have HC : Hid (Lib.compareBytes a.data.toList b.data.toList = c) := hc
  clear hc
  go_enter Tryd.func39, Tryd.ntmps39
  go_wp2_with fail
  go_loopw [5] (fun v wr => Hid (∃ i : Nat, i ≤ a.size ∧ i ≤ b.size ∧ v = .int .i64 (i : Int) ∧ Lib.compareBytes (a.data.toList.drop i) (b.data.toList.drop i) = c ∧ ∃ n, wr = w.drewN n)) (fun v _ => a.size - (intOf v).toNat)
  case atStart => exact ⟨0, by omega, by omega, rfl, HC.out, 0, rfl⟩
  case round =>
    obtain ⟨i, hia, hib, rfl, hcc, nd, rfl⟩ := Hid.out hrel
    have HI : Hid (Lib.compareBytes (a.data.toList.drop i) (b.data.toList.drop i) = c) := hcc
    clear hrel hcc HC
    have fin : Hid (∀ n, ∃ m, (w.drewN nd).drewN n = w.drewN m) := fun n => ⟨_, World.drewN_drewN _ _ _⟩
    by_cases h1 : i < a.size
    · have i1 : (i : Int) < (a.size : Int) := by omega
      by_cases h2 : i < b.size
      · have i2 : (i : Int) < (b.size : Int) := by omega
        obtain ⟨x, hx⟩ : ∃ x : UInt8, a[i]'h1 = x := ⟨_, rfl⟩
        obtain ⟨y, hy⟩ : ∃ y : UInt8, b[i]'h2 = y := ⟨_, rfl⟩
        have HX : Hid (a.data.toList[i]? = some x) := by show _ = _; rw [← hx]; exact Lib.data_getElem? a i h1
        have HY : Hid (b.data.toList[i]? = some y) := by show _ = _; rw [← hy]; exact Lib.data_getElem? b i h2
        have HN : Hid ((if x < y then (-1 : Int) else if y < x then 1 else Lib.compareBytes (a.data.toList.drop (i + 1)) (b.data.toList.drop (i + 1))) = c) := by
          have := HI.out
          rw [dropAt HX.out, dropAt HY.out] at this
          exact this
        clear HI HX HY
        by_cases c1 : x < y
        · have l1 : (x.toNat : Int) < (y.toNat : Int) := by have := UInt8.lt_iff_toNat_lt.1 c1; omega
          obtain rfl : -1 = c := by have := HN.out; rwa [if_pos c1] at this
          clear HN c1
          go_wp2_with fail
          go_quiet (fail)
          go_wp2_with fail
          go_ret
          exact ⟨rfl, fin.out _⟩
        · have l1 : ¬ ((x.toNat : Int) < (y.toNat : Int)) := by intro h; exact c1 (UInt8.lt_iff_toNat_lt.2 (by omega))
          by_cases c2 : y < x
          · have l2 : (y.toNat : Int) < (x.toNat : Int) := by have := UInt8.lt_iff_toNat_lt.1 c2; omega
            obtain rfl : 1 = c := by have := HN.out; rwa [if_neg c1, if_pos c2] at this
            clear HN c1 c2
            go_wp2_with fail
            go_quiet (fail)
            have fin2 : Hid (∀ n, ∃ m, ((w.drewN nd).drewN nq).drewN n = w.drewN m) := fun n => ⟨_, by rw [World.drewN_drewN, World.drewN_drewN]⟩
            generalize (w.drewN nd).drewN nq = w3 at fin2 ⊢
            go_wp2_with fail
            go_quiet (fail)
            go_wp2_with fail
            go_ret
            exact ⟨rfl, fin2.out _⟩
          · have l2 : ¬ ((y.toNat : Int) < (x.toNat : Int)) := by intro h; exact c2 (UInt8.lt_iff_toNat_lt.2 (by omega))
            have HM : Hid (Lib.compareBytes (a.data.toList.drop (i + 1)) (b.data.toList.drop (i + 1)) = c) := by have := HN.out; rwa [if_neg c1, if_neg c2] at this
            clear HN c1 c2
            go_wp2_with fail
            go_quiet (fail)
            have fin2 : Hid (∀ n, ∃ m, ((w.drewN nd).drewN nq).drewN n = w.drewN m) := fun n => ⟨_, by rw [World.drewN_drewN, World.drewN_drewN]⟩
            generalize (w.drewN nd).drewN nq = w3 at fin2 ⊢
            go_wp2_with fail
            go_quiet (fail)
            go_wp2_with fail
            go_roundw
            case rel => exact ⟨i + 1, by omega, by omega, by first | rfl | go_num | simp, HM.out, fin2.out _⟩
            case measure => simp [intOf]; omega
      · have i2 : ¬ ((i : Int) < (b.size : Int)) := by omega
        obtain rfl : 1 = c := (cmp_nil_drop i (by rw [← HAL.out]; exact h1) (by rw [← HBL.out]; omega)).symm.trans HI.out
        have l1 : ¬ ((a.size : Int) < (b.size : Int)) := by omega
        have l2 : (b.size : Int) < (a.size : Int) := by omega
        go_wp2_with fail
        go_ret
        exact ⟨rfl, nd, rfl⟩
    · have i1 : ¬ ((i : Int) < (a.size : Int)) := by omega
      by_cases h2 : i < b.size
      · obtain rfl : -1 = c := (cmp_drop_nil i (by rw [← HBL.out]; exact h2) (by rw [← HAL.out]; omega)).symm.trans HI.out
        have l1 : (a.size : Int) < (b.size : Int) := by omega
        go_wp2_with fail
        go_ret
        exact ⟨rfl, nd, rfl⟩
      · obtain rfl : 0 = c := (cmp_nil_nil i (by rw [← HAL.out]; omega) (by rw [← HBL.out]; omega)).symm.trans HI.out
        have l1 : ¬ ((a.size : Int) < (b.size : Int)) := by omega
        have l2 : ¬ ((b.size : Int) < (a.size : Int)) := by omega
        go_wp2_with fail
        go_ret
        exact ⟨rfl, nd, rfl⟩
end Go.Proofs.YtgpghdhkbliodaaDoor
