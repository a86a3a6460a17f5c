/- Entries read from a text: the program's Decode. -/
import Derived.Test.YtimjggkdpmgpjaaGreatDoorHBlkOwn
import Derived.Handy
import Derived.Test.YtimjggkdpmgpjaaGreatDoorHOrders

namespace Go.Proofs.YtimjggkdpmgpjaaGreatDoor
theorem sgLHNaDecode : (∀ (α : Type) (a : α) (l r : List α), (a :: l) ++ r = a :: (l ++ r)) ∧ (∀ (α : Type) (l : List α), [] ++ l = l) ∧ (∀ (α : Type) (l : List α), l ++ [] = l) ∧ (∀ (α β : Type) (f : α → Option β) (a : α) (l : List α), (a :: l).filterMap f = match f a with | none => l.filterMap f | some b => b :: l.filterMap f) ∧ (∀ (α β : Type) (f : α → Option β), [].filterMap f = []) ∧ (∀ (α : Type) (l : List α) (i : Nat), l.toArray[i]? = l[i]?) ∧ (∀ (α : Type) (a : α) (l : List α), (a :: l)[0]? = some a) ∧ (∀ (α : Type) (a : α) (l : List α) (i : Nat), (a :: l)[i + 1]? = l[i]?) :=
  ⟨fun _ _ _ _ => List.cons_append, fun _ _ => List.nil_append _, fun _ _ => List.append_nil _, fun _ _ _ _ _ => List.filterMap_cons, fun _ _ _ => List.filterMap_nil, fun _ _ _ => List.getElem?_toArray, fun _ _ _ => List.getElem?_cons_zero, fun _ _ _ _ => List.getElem?_cons_succ⟩
theorem sgPHNaDecode : (∀ (α : Type) (l : List α) (i : Nat) (a : α), l.toArray.setIfInBounds i a = (l.set i a).toArray) ∧ (∀ (α : Type) (a b : α) (l : List α), (a :: l).set 0 b = b :: l) ∧ (∀ (α : Type) (a b : α) (l : List α) (i : Nat), (a :: l).set (i + 1) b = a :: l.set i b) :=
  ⟨fun _ _ _ _ => List.setIfInBounds_toArray _ _ _, fun _ _ _ _ => List.set_cons_zero, fun _ _ _ _ _ => List.set_cons_succ⟩
end Go.Proofs.YtimjggkdpmgpjaaGreatDoor
namespace Go.Proofs.YtimjggkdpmgpjaaGreatDoor
set_option maxRecDepth 20000
open Go Go.RowKit
set_option linter.unusedVariables false
set_option linter.unusedSimpArgs false
theorem wrap_u64 (i : Nat) (h : i < 18446744073709551616) : IntKind.u64.wrap (i : Int) = (i : Int) := by
  unfold IntKind.wrap
  simp only [IntKind.bits, IntKind.signed]
  have : ((i : Int)) % (2 ^ 64) = (i : Int) := by omega
  simp [this]
  omega
/-- what Encode answers: the error, and the text -/
def encE (i : Int) (s : ByteArray) : Int := if i < 1 ∨ 4096 < i then 1 else if isName s.data.toList = true then 0 else 130
def encT (i : Int) (s : ByteArray) : ByteArray := if encE i s = 0 then strN (entF i.toNat s) 64 else ⟨#[]⟩
theorem encode_any (i : Int) (s : ByteArray) (w : World) :
    Calls Tryz.prog 49 #[lkV i s] w fun e w' => e = .returned (.tuple #[.string (encT i s), .int .i64 (encE i s)]) ∧ Below w.heap.size w w' := by
  by_cases h1 : i < 1 ∨ 4096 < i
  · have e1 : encE i s = 1 := if_pos h1
    unfold encT
    rw [e1, if_neg (by decide)]
    exact encode_arg s i h1 w
  · cases hn : isName s.data.toList
    · have e1 : encE i s = 130 := by unfold encE; rw [if_neg h1, hn]; rfl
      unfold encT
      rw [e1, if_neg (by decide)]
      exact encode_name s i (by omega) (by omega) hn w
    · have e1 : encE i s = 0 := by unfold encE; rw [if_neg h1, hn]; rfl
      unfold encT
      rw [e1, if_pos rfl]
      obtain ⟨n, rfl⟩ : ∃ n : Nat, i = (n : Int) := ⟨i.toNat, by omega⟩
      rw [Int.toNat_natCast]
      exact encode_ok s n (by omega) (by omega) hn w
set_option maxHeartbeats 4000000 in
theorem rencode_arg (s : ByteArray) (i : Int) (hi : i < 1 ∨ 4096 < i) (w : World) :
    Calls Tryz.prog 46 #[lkV i s] w fun e w' => e = .returned (.tuple #[.string ⟨#[]⟩, .int .i64 1]) ∧ Below w.heap.size w w' := by
  have HB : Hid (Below w.heap.size w (w.alloc (.cells #[.int .i64 i, .string s] 82))) := below_new1 _ _
  by_cases h1 : i < 1
  · clear hi
    go_enter Tryz.func46, Tryz.ntmps46
    go_wp2_with fail
    go_ret2
    exact ⟨rfl, HB.out⟩
  · have h2 : 4096 < i := by omega
    clear hi
    go_enter Tryz.func46, Tryz.ntmps46
    go_wp2_with fail
    go_ret2
    exact ⟨rfl, HB.out⟩
set_option maxHeartbeats 4000000 in
theorem rencode_name (s : ByteArray) (i : Int) (h1 : 1 ≤ i) (h2 : i ≤ 4096) (hn : isName s.data.toList = false) (w : World) :
    Calls Tryz.prog 46 #[lkV i s] w fun e w' => e = .returned (.tuple #[.string ⟨#[]⟩, .int .i64 130]) ∧ Below w.heap.size w w' := by
  have HB : Hid (Below w.heap.size w (w.alloc (.cells #[.int .i64 i, .string s] 82))) := below_new1 _ _
  have HC : Hid (∀ w : World, Calls Tryz.prog 16 #[.string s] w fun e w' => e = .returned (.bool false) ∧ w' = w) := by
    have := is_any s
    rw [hn] at this
    exact this
  clear hn
  go_enter Tryz.func46, Tryz.ntmps46
  go_wp2_with (first | (go_at_call 16; refine (HC.out _).mono ?_; rintro e w' ⟨rfl, rfl⟩))
  go_wp2_with fail
  go_ret2
  exact ⟨rfl, HB.out⟩
def strLenE : Value → Nat | .string s => s.size | _ => 0
theorem tb_app (s t : ByteArray) (j : Nat) : tbyte (s ++ t) j = if j < s.size then tbyte s j else tbyte t (j - s.size) := by
  unfold tbyte
  rw [show (s ++ t).data.toList = s.data.toList ++ t.data.toList from by simp]
  rw [List.getD_eq_getElem?_getD, List.getD_eq_getElem?_getD, List.getD_eq_getElem?_getD]
  by_cases h : j < s.size
  · rw [if_pos h, List.getElem?_append_left (by rw [← Lib.size_eq]; exact h)]
  · rw [if_neg h, List.getElem?_append_right (by rw [← Lib.size_eq]; omega), ← Lib.size_eq]
theorem nb_lt (x j : Nat) : nb x j < 256 := Nat.mod_lt _ (by decide)
theorem entF_lt (i : Nat) (s : ByteArray) (j : Nat) : entF i s j < 256 := by
  unfold entF
  split
  · exact nb_lt _ _
  · split
    · exact nb_lt _ _
    · split
      · decide
      · split
        · exact tbyte_lt _ _
        · decide
theorem ent_head (i : Nat) (s : ByteArray) (h56 : s.size ≤ 56) : strN (nb i) 4 ++ strN (nb s.size) 4 ++ s = strN (entF i s) (8 + s.size) := by
  have z1 : (strN (nb i) 4).size = 4 := strN_size _ _
  have z2 : (strN (nb s.size) 4).size = 4 := strN_size _ _
  have z3 : (strN (nb i) 4 ++ strN (nb s.size) 4).size = 8 := by rw [ByteArray.size_append, z1, z2]
  refine text_ext (by rw [ByteArray.size_append, z3, strN_size]) fun j hj => ?_
  rw [ByteArray.size_append, z3] at hj
  rw [strN_at _ _ _ hj (entF_lt _ _ _), tb_app, z3, tb_app, z1]
  unfold entF
  by_cases h4 : j < 4
  · rw [if_pos (by omega), if_pos h4, if_pos h4, strN_at _ _ _ h4 (nb_lt _ _)]
  · rw [if_neg h4, if_neg h4]
    by_cases h6 : j < 6
    · rw [if_pos (by omega), if_pos h6, strN_at _ _ _ (by omega) (nb_lt _ _)]
    · rw [if_neg h6]
      by_cases h8 : j < 8
      · rw [if_pos h8, if_pos h8, strN_at _ _ _ (by omega) (nb_lt _ _)]
        have : j = 6 ∨ j = 7 := by omega
        rcases this with rfl | rfl
        · show s.size / 65536 % 256 = 0
          omega
        · show s.size / 16777216 % 256 = 0
          omega
      · rw [if_neg h8, if_neg h8, if_pos (by omega)]
theorem ent_more (i : Nat) (s : ByteArray) (q : Nat) (hq : 8 + s.size ≤ q) : strN (entF i s) q ++ ⟨#[0]⟩ = strN (entF i s) (q + 1) := by
  have z1 : (strN (entF i s) q).size = q := strN_size _ _
  refine text_ext (by rw [ByteArray.size_append, z1, strN_size]; rfl) fun j hj => ?_
  rw [ByteArray.size_append, z1] at hj
  have hj2 : j < q + 1 := hj
  rw [strN_at _ _ _ hj2 (entF_lt _ _ _), tb_app, z1]
  by_cases h : j < q
  · rw [if_pos h, strN_at _ _ _ h (entF_lt _ _ _)]
  · obtain rfl : j = q := by omega
    rw [if_neg h, Nat.sub_self]
    unfold entF
    rw [if_neg (by omega), if_neg (by omega), if_neg (by omega), if_neg (by omega)]
    rfl
/-- what has been done of the region with two calls -/
def rencR (w : World) (i : Nat) (s : ByteArray) (l : Array Bool) (a : Act) (W : World) : Prop :=
  ∃ (x4 x20 x21 x26 x27 x28 x31 : Value) (g20 c20 g26 c26 : Nat), a = ({ tmps := #[lkV (i : Int) s, Value.pointer (some ⟨w.heap.size, 0, none⟩), Value.string ⟨#[]⟩, Value.int .i64 0, x4, Value.pointer (some ⟨w.heap.size, 0, none⟩), Value.int .i64 (i : Int), Value.bool false, Value.bool false, Value.pointer (some ⟨w.heap.size, 0, none⟩), Value.int .i64 (i : Int), Value.bool false, Value.bool false, Value.pointer (some ⟨w.heap.size, 1, none⟩), Value.string s, Value.bool true, Value.bool false, Value.pointer (some ⟨w.heap.size, 0, none⟩), Value.int .i64 (i : Int), Value.int .u64 (i : Int), x20, x21, Value.pointer (some ⟨w.heap.size, 1, none⟩), Value.string s, Value.int .i64 (s.size : Int), Value.int .u64 (s.size : Int), x26, x27, x28, Value.pointer (some ⟨w.heap.size, 1, none⟩), Value.string s, x31, undef, undef, undef, undef, undef, undef, undef, undef], defers := [] } : Act) ∧ Hid (l.size = 16 ∧ Blk W w.heap.size 82 #[.int .i64 (i : Int), .string s] ∧ Below w.heap.size w W ∧
    (l.getD 3 false = true → x20 = .slice (some ⟨g20, 0, none⟩) 4 c20 ∧ g20 < W.heap.size ∧ ∀ j, j < 4 → W.cell? ⟨g20, j, none⟩ = some (.int .u8 ((digs i 4).getD j 0))) ∧ (l.getD 4 false = true → x21 = .string (strN (nb i) 4)) ∧
    (l.getD 9 false = true → x26 = .slice (some ⟨g26, 0, none⟩) 4 c26 ∧ g26 < W.heap.size ∧ ∀ j, j < 4 → W.cell? ⟨g26, j, none⟩ = some (.int .u8 ((digs s.size 4).getD j 0))) ∧ (l.getD 10 false = true → x27 = .string (strN (nb s.size) 4)) ∧
    (l.getD 11 false = true → x28 = .string (strN (nb i) 4 ++ strN (nb s.size) 4)) ∧ (l.getD 14 false = true → x31 = .string (strN (nb i) 4 ++ strN (nb s.size) 4 ++ s)) ∧ (l.getD 15 false = true → x4 = .string (strN (nb i) 4 ++ strN (nb s.size) 4 ++ s)))
set_option maxHeartbeats 4000000 in
theorem rencode_ok (s : ByteArray) (i : Nat) (h1 : 1 ≤ i) (h2 : i ≤ 4096) (hn : isName s.data.toList = true) (w : World) :
    Calls Tryz.prog 46 #[lkV (i : Int) s] w fun e w' => e = .returned (.tuple #[.string (strN (entF i s) 64), .int .i64 0]) ∧ Below w.heap.size w w' := by
  have h56 : s.size ≤ 56 := by rw [Lib.size_eq]; exact (isName_len hn).2
  have HB2 : Hid (Below w.heap.size w (w.alloc (.cells #[.int .i64 (i : Int), .string s] 82)) ∧ Blk (w.alloc (.cells #[.int .i64 (i : Int), .string s] 82)) w.heap.size 82 #[.int .i64 (i : Int), .string s]) := ⟨below_new1 _ _, Blk.new _ _ _⟩
  have HC : Hid (∀ w : World, Calls Tryz.prog 16 #[.string s] w fun e w' => e = .returned (.bool true) ∧ w' = w) := by
    have := is_any s
    rw [hn] at this
    exact this
  clear hn
  have i1 : ¬ ((i : Int) < 1) := by omega
  have i2 : ¬ ((4096 : Int) < (i : Int)) := by omega
  have hw1 : IntKind.u64.wrap (i : Int) = (i : Int) := wrap_u64 i (by omega)
  have hw2 : IntKind.u64.wrap (s.size : Int) = (s.size : Int) := wrap_u64 s.size (by omega)
  have hz1 : (strN (nb i) 4).size = 4 := strN_size _ _
  have hz2 : (strN (nb s.size) 4).size = 4 := strN_size _ _
  have hz3 : (strN (nb i) 4 ++ strN (nb s.size) 4).size = 8 := by rw [ByteArray.size_append, hz1, hz2]
  go_enter Tryz.func46, Tryz.ntmps46
  go_wp2_with (first | (go_at_call 16; refine (HC.out _).mono ?_; rintro e w' ⟨rfl, hwv⟩; subst hwv))
  go_wp2_with fail
  refine wp_region_mach (fun W => Blk W w.heap.size 82 #[.int .i64 (i : Int), .string s]) (fun i l => match i with | 3 => true | 4 => l.getD 3 false | 9 => true | 10 => l.getD 9 false | 11 => l.getD 4 false && l.getD 10 false | 14 => l.getD 11 false | 15 => l.getD 14 false | _ => false)
    (fun l => l.getD 15 false) [0, 1, 2, 5, 6, 7, 8, 12, 13] 7 (rencR w i s) (by kernel_rfl) (by kernel_rfl) HB2.out.2.drew ?_ ?_ ?_
  · refine ⟨_, Value.pointer (some ⟨w.heap.size, 0, none⟩), rfl, Or.inl ⟨by rfl, fun W hW => by go_simp⟩, ?_⟩
    simp only [Act.put, sgPHNaDecode]
    refine ⟨_, Value.int .i64 (i : Int), rfl, Or.inl ⟨by rfl, fun W hW => by have hW1 : W.cell? ⟨w.heap.size, 0, none⟩ = some (.int .i64 (i : Int)) := hW.cell 0; go_simp⟩, ?_⟩
    simp only [Act.put, sgPHNaDecode]
    refine ⟨_, Value.int .u64 (i : Int), rfl, Or.inl ⟨by rfl, fun W hW => by go_simp⟩, ?_⟩
    simp only [Act.put, sgPHNaDecode]
    refine ⟨_, Value.pointer (some ⟨w.heap.size, 1, none⟩), rfl, Or.inl ⟨by rfl, fun W hW => by go_simp⟩, ?_⟩
    simp only [Act.put, sgPHNaDecode]
    refine ⟨_, Value.string s, rfl, Or.inl ⟨by rfl, fun W hW => by have hW1 : W.cell? ⟨w.heap.size, 1, none⟩ = some (.string s) := hW.cell 1; go_simp⟩, ?_⟩
    simp only [Act.put, sgPHNaDecode]
    refine ⟨_, Value.int .i64 (s.size : Int), rfl, Or.inl ⟨by rfl, fun W hW => by go_simp⟩, ?_⟩
    simp only [Act.put, sgPHNaDecode]
    refine ⟨_, Value.int .u64 (s.size : Int), rfl, Or.inl ⟨by rfl, fun W hW => by go_simp⟩, ?_⟩
    simp only [Act.put, sgPHNaDecode]
    refine ⟨_, Value.pointer (some ⟨w.heap.size, 1, none⟩), rfl, Or.inl ⟨by rfl, fun W hW => by go_simp⟩, ?_⟩
    simp only [Act.put, sgPHNaDecode]
    refine ⟨_, Value.string s, rfl, Or.inl ⟨by rfl, fun W hW => by have hW1 : W.cell? ⟨w.heap.size, 1, none⟩ = some (.string s) := hW.cell 1; go_simp⟩, ?_⟩
    simp only [Act.put, sgPHNaDecode]
    exact ⟨undef, undef, undef, undef, undef, undef, undef, 0, 0, 0, 0, rfl, rfl, HB2.out.2.drew, HB2.out.1.drew, fun h => absurd (show false = true from h) (by decide), fun h => absurd (show false = true from h) (by decide), fun h => absurd (show false = true from h) (by decide), fun h => absurd (show false = true from h) (by decide), fun h => absurd (show false = true from h) (by decide), fun h => absurd (show false = true from h) (by decide), fun h => absurd (show false = true from h) (by decide)⟩
  · intro j l a W hp hR
    obtain ⟨x4, x20, x21, x26, x27, x28, x31, g20, c20, g26, c26, rfl, H⟩ := hR
    have hj : j = 3 ∨ j = 4 ∨ j = 9 ∨ j = 10 ∨ j = 11 ∨ j = 14 ∨ j = 15 := by
      split at hp <;> simp_all
    obtain ⟨hsz, hbox, hbel, h3, h4, h9, h10, h11, h14, h15⟩ := H.out
    clear H
    rcases hj with rfl | rfl | rfl | rfl | rfl | rfl | rfl
    · clear hp
      simp only [sgLHNaDecode]
      go_wp2_with fail
      refine (refBytes_any i 4 (by decide) (by decide) (by omega) _).mono ?_
      intro e w3 hw3
      obtain ⟨gn, cn, he3, hg1, hg2, hce, hb3⟩ := hw3
      subst he3
      have HX : Hid (Blk w3 w.heap.size 82 #[.int .i64 (i : Int), .string s]) := hbox.below hb3 hbox.lt
      have HR : Hid (Below w.heap.size w w3) := hbel.trans (hb3.mono hbel.size)
      have HALL : Hid (_ ∧ _ ∧ _ ∧ _ ∧ _ ∧ _ ∧ _ ∧ _ ∧ _ ∧ _ ∧ _) := ⟨hsz, h3, h4, h9, h10, h11, h14, h15, hb3, hce, hg2⟩
      clear hsz hbox hbel h3 h4 h9 h10 h11 h14 h15 hb3 hce hg1 hg2
      go_wp2_with fail
      refine ⟨rfl, HX.out, x4, _, x21, x26, x27, x28, x31, gn, cn, g26, c26, rfl, ?_⟩
      obtain ⟨hsz, h3, h4, h9, h10, h11, h14, h15, hb3, hce, hg2⟩ := HALL.out
      exact ⟨by simpa using hsz, HX.out, HR.out, fun _ => ⟨rfl, hg2, hce⟩, fun h => by rw [gs_ne (by decide)] at h; exact h4 h, fun h => by rw [gs_ne (by decide)] at h; exact ⟨(h9 h).1, Nat.lt_of_lt_of_le (h9 h).2.1 hb3.size, fun j hj => (hb3.cell (h9 h).2.1).trans ((h9 h).2.2 j hj)⟩, fun h => by rw [gs_ne (by decide)] at h; exact h10 h, fun h => by rw [gs_ne (by decide)] at h; exact h11 h, fun h => by rw [gs_ne (by decide)] at h; exact h14 h, fun h => by rw [gs_ne (by decide)] at h; exact h15 h⟩
    · obtain ⟨rfl, hgl, hce⟩ := h3 hp
      have hcv := run_convert_bytes_arg (P := Tryz.prog) W 190 5 Tryz.underlying190 Tryz.underlying5 g20 0 4 c20 (digs i 4) (digs_length _ _) (fun j hj => by rw [Nat.zero_add]; exact hce j hj) 9 Tryz.underlying9
      rw [show strOfNums (digs i 4) = strN (nb i) 4 from rfl] at hcv
      have HALL : Hid (_ ∧ _ ∧ _ ∧ _ ∧ _ ∧ _ ∧ _ ∧ _ ∧ _ ∧ _) := ⟨hsz, hbox, hbel, h3, h4, h9, h10, h11, h14, h15⟩
      clear hsz hbox hbel h3 h4 h9 h10 h11 h14 h15
      simp only [sgLHNaDecode]
      go_wp2_with fail
      obtain ⟨hsz, hbox, hbel, h3, h4, h9, h10, h11, h14, h15⟩ := HALL.out
      refine ⟨rfl, hbox, x4, _, _, x26, x27, x28, x31, g20, c20, g26, c26, rfl, ?_⟩
      exact ⟨by simpa using hsz, hbox, hbel, fun h => by rw [gs_ne (by decide)] at h; exact ⟨rfl, (h3 h).2⟩, fun _ => rfl, fun h => by rw [gs_ne (by decide)] at h; exact h9 h, fun h => by rw [gs_ne (by decide)] at h; exact h10 h, fun h => by rw [gs_ne (by decide)] at h; exact h11 h, fun h => by rw [gs_ne (by decide)] at h; exact h14 h, fun h => by rw [gs_ne (by decide)] at h; exact h15 h⟩
    · clear hp
      simp only [sgLHNaDecode]
      go_wp2_with fail
      refine (refBytes_any s.size 4 (by decide) (by decide) (by omega) _).mono ?_
      intro e w3 hw3
      obtain ⟨gn, cn, he3, hg1, hg2, hce, hb3⟩ := hw3
      subst he3
      have HX : Hid (Blk w3 w.heap.size 82 #[.int .i64 (i : Int), .string s]) := hbox.below hb3 hbox.lt
      have HR : Hid (Below w.heap.size w w3) := hbel.trans (hb3.mono hbel.size)
      have HALL : Hid (_ ∧ _ ∧ _ ∧ _ ∧ _ ∧ _ ∧ _ ∧ _ ∧ _ ∧ _ ∧ _) := ⟨hsz, h3, h4, h9, h10, h11, h14, h15, hb3, hce, hg2⟩
      clear hsz hbox hbel h3 h4 h9 h10 h11 h14 h15 hb3 hce hg1 hg2
      go_wp2_with fail
      refine ⟨rfl, HX.out, x4, x20, x21, _, x27, x28, x31, g20, c20, gn, cn, rfl, ?_⟩
      obtain ⟨hsz, h3, h4, h9, h10, h11, h14, h15, hb3, hce, hg2⟩ := HALL.out
      exact ⟨by simpa using hsz, HX.out, HR.out, fun h => by rw [gs_ne (by decide)] at h; exact ⟨(h3 h).1, Nat.lt_of_lt_of_le (h3 h).2.1 hb3.size, fun j hj => (hb3.cell (h3 h).2.1).trans ((h3 h).2.2 j hj)⟩, fun h => by rw [gs_ne (by decide)] at h; exact h4 h, fun _ => ⟨rfl, hg2, hce⟩, fun h => by rw [gs_ne (by decide)] at h; exact h10 h, fun h => by rw [gs_ne (by decide)] at h; exact h11 h, fun h => by rw [gs_ne (by decide)] at h; exact h14 h, fun h => by rw [gs_ne (by decide)] at h; exact h15 h⟩
    · obtain ⟨rfl, hgl, hce⟩ := h9 hp
      have hcv := run_convert_bytes_arg (P := Tryz.prog) W 190 5 Tryz.underlying190 Tryz.underlying5 g26 0 4 c26 (digs s.size 4) (digs_length _ _) (fun j hj => by rw [Nat.zero_add]; exact hce j hj) 9 Tryz.underlying9
      rw [show strOfNums (digs s.size 4) = strN (nb s.size) 4 from rfl] at hcv
      have HALL : Hid (_ ∧ _ ∧ _ ∧ _ ∧ _ ∧ _ ∧ _ ∧ _ ∧ _ ∧ _) := ⟨hsz, hbox, hbel, h3, h4, h9, h10, h11, h14, h15⟩
      clear hsz hbox hbel h3 h4 h9 h10 h11 h14 h15
      simp only [sgLHNaDecode]
      go_wp2_with fail
      obtain ⟨hsz, hbox, hbel, h3, h4, h9, h10, h11, h14, h15⟩ := HALL.out
      refine ⟨rfl, hbox, x4, x20, x21, _, _, x28, x31, g20, c20, g26, c26, rfl, ?_⟩
      exact ⟨by simpa using hsz, hbox, hbel, fun h => by rw [gs_ne (by decide)] at h; exact h3 h, fun h => by rw [gs_ne (by decide)] at h; exact h4 h, fun h => by rw [gs_ne (by decide)] at h; exact ⟨rfl, (h9 h).2⟩, fun _ => rfl, fun h => by rw [gs_ne (by decide)] at h; exact h11 h, fun h => by rw [gs_ne (by decide)] at h; exact h14 h, fun h => by rw [gs_ne (by decide)] at h; exact h15 h⟩
    · simp only [Bool.and_eq_true] at hp
      obtain rfl := h4 hp.1
      obtain rfl := h10 hp.2
      have HALL : Hid (_ ∧ _ ∧ _ ∧ _ ∧ _ ∧ _ ∧ _ ∧ _ ∧ _ ∧ _) := ⟨hsz, hbox, hbel, h3, h4, h9, h10, h11, h14, h15⟩
      clear hsz hbox hbel h3 h4 h9 h10 h11 h14 h15
      simp only [sgLHNaDecode]
      go_wp2_with fail
      obtain ⟨hsz, hbox, hbel, h3, h4, h9, h10, h11, h14, h15⟩ := HALL.out
      refine ⟨rfl, hbox, x4, x20, _, x26, _, _, x31, g20, c20, g26, c26, rfl, ?_⟩
      exact ⟨by simpa using hsz, hbox, hbel, fun h => by rw [gs_ne (by decide)] at h; exact h3 h, fun _ => rfl, fun h => by rw [gs_ne (by decide)] at h; exact h9 h, fun _ => rfl, fun _ => rfl, fun h => by rw [gs_ne (by decide)] at h; exact h14 h, fun h => by rw [gs_ne (by decide)] at h; exact h15 h⟩
    · obtain rfl := h11 hp
      have HALL : Hid (_ ∧ _ ∧ _ ∧ _ ∧ _ ∧ _ ∧ _ ∧ _ ∧ _ ∧ _) := ⟨hsz, hbox, hbel, h3, h4, h9, h10, h11, h14, h15⟩
      clear hsz hbox hbel h3 h4 h9 h10 h11 h14 h15
      simp only [sgLHNaDecode]
      go_wp2_with fail
      obtain ⟨hsz, hbox, hbel, h3, h4, h9, h10, h11, h14, h15⟩ := HALL.out
      refine ⟨rfl, hbox, x4, x20, x21, x26, x27, _, _, g20, c20, g26, c26, rfl, ?_⟩
      exact ⟨by simpa using hsz, hbox, hbel, fun h => by rw [gs_ne (by decide)] at h; exact h3 h, fun h => by rw [gs_ne (by decide)] at h; exact h4 h, fun h => by rw [gs_ne (by decide)] at h; exact h9 h, fun h => by rw [gs_ne (by decide)] at h; exact h10 h, fun _ => rfl, fun _ => rfl, fun h => by rw [gs_ne (by decide)] at h; exact h15 h⟩
    · obtain rfl := h14 hp
      have HALL : Hid (_ ∧ _ ∧ _ ∧ _ ∧ _ ∧ _ ∧ _ ∧ _ ∧ _ ∧ _) := ⟨hsz, hbox, hbel, h3, h4, h9, h10, h11, h14, h15⟩
      clear hsz hbox hbel h3 h4 h9 h10 h11 h14 h15
      simp only [sgLHNaDecode]
      go_wp2_with fail
      obtain ⟨hsz, hbox, hbel, h3, h4, h9, h10, h11, h14, h15⟩ := HALL.out
      refine ⟨rfl, hbox, _, x20, x21, x26, x27, x28, _, g20, c20, g26, c26, rfl, ?_⟩
      exact ⟨by simpa using hsz, hbox, hbel, fun h => by rw [gs_ne (by decide)] at h; exact h3 h, fun h => by rw [gs_ne (by decide)] at h; exact h4 h, fun h => by rw [gs_ne (by decide)] at h; exact h9 h, fun h => by rw [gs_ne (by decide)] at h; exact h10 h, fun h => by rw [gs_ne (by decide)] at h; exact h11 h, fun _ => rfl, fun _ => rfl⟩
  · intro l a W hp hR
    obtain ⟨x4, x20, x21, x26, x27, x28, x31, g20, c20, g26, c26, rfl, H⟩ := hR
    obtain ⟨hsz, hbox, hbel, h3, h4, h9, h10, h11, h14, h15⟩ := H.out
    clear H
    obtain rfl := h15 hp
    have HW : Hid (Below w.heap.size w W) := hbel
    clear h3 h4 h9 h10 h11 h14 h15 hp hsz hbox hbel l
    refine ⟨rfl, ?_⟩
    have hz4 : (strN (nb i) 4 ++ strN (nb s.size) 4 ++ s).size = 8 + s.size := by rw [ByteArray.size_append, hz3]
    have HE : Hid (∀ q, q ≤ 64 → 8 + s.size ≤ q → strN (entF i s) q = strN (entF i s) q) := fun _ _ _ => rfl
    have HS : Hid (strN (nb i) 4 ++ strN (nb s.size) 4 ++ s = strN (entF i s) (8 + s.size)) := ent_head i s h56
    rw [HS.out] at hz4 ⊢
    clear hz1 hz2 hz3 hw1 hw2 HS HE
    go_wp2_with fail
    go_loopw [4] (fun v wr => Hid (∃ q : Nat, 8 + s.size ≤ q ∧ q ≤ 64 ∧ v = .string (strN (entF i s) q) ∧ Below w.heap.size w wr)) (fun v _ => 64 - strLenE v)
    case atStart => exact ⟨8 + s.size, by omega, by omega, rfl, HW.out⟩
    case round =>
      obtain ⟨q, hq1, hq2, rfl, hb⟩ := Hid.out hrel
      have HB : Hid (Below w.heap.size w wr) := hb
      clear hrel hb HW hz4
      have hz : (strN (entF i s) q).size = q := strN_size _ _
      by_cases h5 : q < 64
      · have j1 : (q : Int) < 64 := by omega
        have HN : Hid (strN (entF i s) q ++ ⟨#[0]⟩ = strN (entF i s) (q + 1)) := ent_more i s q hq1
        have HBn : Hid (Below w.heap.size w (wr.alloc (.cells #[.int .u8 0] 5))) := HB.out.alloc HB.out.size _
        have hcv := run_convert_bytes_arg (P := Tryz.prog) (wr.alloc (.cells #[.int .u8 0] 5)) 190 5 Tryz.underlying190 Tryz.underlying5 wr.heap.size 0 1 1 [0] rfl (fun j hj => by
          obtain rfl : j = 0 := by omega
          exact (Blk.new wr 5 #[.int .u8 0]).cell 0) 9 Tryz.underlying9
        rw [show strOfNums [0] = ⟨#[0]⟩ from by decide] at hcv
        have HZ : Hid ((strN (entF i s) q).size = q ∧ (strN (entF i s) (q + 1)).size = q + 1) := ⟨hz, strN_size _ _⟩
        obtain ⟨tq, htq⟩ : ∃ t, strN (entF i s) q = t := ⟨_, rfl⟩
        obtain ⟨tn, htn⟩ : ∃ t, t = strN (entF i s) (q + 1) := ⟨_, rfl⟩
        have hcc : tq ++ (⟨#[0]⟩ : ByteArray) = tn := by rw [← htq, htn]; exact HN.out
        rw [htq] at hz ⊢
        have HZ2 : Hid (tq.size = q ∧ tn.size = q + 1 ∧ tn = strN (entF i s) (q + 1)) := by rw [← htq, htn]; exact ⟨HZ.out.1, HZ.out.2, rfl⟩
        clear HN HZ htq htn
        have h0z : (⟨#[0]⟩ : ByteArray).size = 1 := rfl
        go_wp2_with fail
        go_roundw
        case rel => exact ⟨q + 1, by omega, by omega, by rw [HZ2.out.2.2], HBn.out⟩
        case measure => show 64 - tn.size < 64 - tq.size; rw [HZ2.out.1, HZ2.out.2.1]; omega
      · obtain rfl : q = 64 := by omega
        have j1 : ¬ ((64 : Int) < 64) := by omega
        obtain ⟨tx, HT⟩ : ∃ t, Hid (strN (entF i s) 64 = t) := ⟨_, rfl⟩
        rw [HT.out] at hz ⊢
        go_wp2_with fail
        go_ret2
        exact ⟨by rw [HT.out]; rfl, HB.out⟩
end Go.Proofs.YtimjggkdpmgpjaaGreatDoor

namespace Go.Proofs.YtimjggkdpmgpjaaGreatDoor
set_option maxRecDepth 20000
open Go Go.RowKit
set_option linter.unusedVariables false
set_option linter.unusedSimpArgs false
theorem rencode_any (i : Int) (s : ByteArray) (w : World) :
    Calls Tryz.prog 46 #[lkV i s] w fun e w' => e = .returned (.tuple #[.string (encT i s), .int .i64 (encE i s)]) ∧ Below w.heap.size w w' := by
  by_cases h1 : i < 1 ∨ 4096 < i
  · have e1 : encE i s = 1 := if_pos h1
    unfold encT
    rw [e1, if_neg (by decide)]
    exact rencode_arg s i h1 w
  · cases hn : isName s.data.toList
    · have e1 : encE i s = 130 := by unfold encE; rw [if_neg h1, hn]; rfl
      unfold encT
      rw [e1, if_neg (by decide)]
      exact rencode_name s i (by omega) (by omega) hn w
    · have e1 : encE i s = 0 := by unfold encE; rw [if_neg h1, hn]; rfl
      unfold encT
      rw [e1, if_pos rfl]
      obtain ⟨n, rfl⟩ : ∃ n : Nat, i = (n : Int) := ⟨i.toNat, by omega⟩
      rw [Int.toNat_natCast]
      exact rencode_ok s n (by omega) (by omega) hn w
theorem res_row3 {P : Program} {fn : Func} {p u v : Tmp} {ty : TypeId} (h : fn.results = #[.cell p ty, .tmp u, .tmp v]) (tmps : Array Value) (w : World) (g : Nat) (t : TypeId) (cs : Array Value) (fr : Nat × Nat) (d : TypeDesc)
    (hp : tmps.getD p undef = .pointer (some ⟨g, 0, none⟩)) (hg : w.heap[g]? = some (.cells cs t fr))
    (hu : P.underlying ty = some d) (hd : (match d with | .struct _ | .array _ _ => true | _ => false) = true) (hi : (P.info? ty).map (·.size) = some cs.size) :
    (results fn tmps).run P w = .ok (.tuple #[.agg cs, tmps.getD u undef, tmps.getD v undef]) w := by
  have hp' : tmps[p]?.getD undef = .pointer (some ⟨g, 0, none⟩) := by simpa using hp
  simp [results, h, hp', asAddr, run_loadVar_row w g t ty cs fr d hg hu hd hi]
/-- what the 64 bytes of an entry say -/
def decI (t : ByteArray) : Nat := qat4 t 0
def decS (t : ByteArray) : ByteArray := t.extract 8 (min (8 + at2 t 4) 64)
theorem clone_any (s : ByteArray) (hs : s.size ≤ 281474976710656) (w : World) :
    Calls Tryz.prog 94 #[.string s] w fun e w' => e = .returned (.string s) ∧ Below w.heap.size w w' := Any.stringslite_Clone Tryz.cloneA s w hs
theorem sclone_any (s : ByteArray) (hs : s.size ≤ 281474976710656) (w : World) :
    Calls Tryz.prog 58 #[.string s] w fun e w' => e = .returned (.string s) ∧ Below w.heap.size w w' := by
  have HC := clone_any s hs
  go_enter Tryz.func58, Tryz.ntmps58
  go_wp2_with fail
  refine (HC _).mono ?_
  intro e w2 hw2
  obtain ⟨he2, hb2⟩ := hw2
  subst he2
  have HB : Hid (Below w.heap.size w w2) := hb2
  clear hb2
  go_wp2_with fail
  go_ret
  exact ⟨rfl, HB.out⟩
theorem sizeLk : (Tryz.prog.info? 54).map (·.size) = some 2 := by kernel_rfl
set_option maxHeartbeats 4000000 in
theorem parts_any (t : ByteArray) (h64 : t.size = 64) (w : World) :
    Calls Tryz.prog 160 #[.string t] w fun e w' => e = .returned (lkV (decI t : Int) (decS t)) ∧ Below w.heap.size w w' := by
  have HT4 : Hid (∀ w : World, Calls Tryz.prog 188 #[.string t, .int .i64 0] w fun e w' => e = .returned (.tuple #[.int .u32 (qat4 t 0 : Int), .bool true]) ∧ Below w.heap.size w w') := qtake32_yes t 0 (by rw [h64]; decide) (by omega)
  have HT2 : Hid (∀ w : World, Calls Tryz.prog 183 #[.string t, .int .i64 4] w fun e w' => e = .returned (.tuple #[.int .u16 (at2 t 4 : Int), .bool true]) ∧ Below w.heap.size w w') := take16_yes t 4 (by rw [h64]; decide) (by omega)
  have hlt : at2 t 4 < 65536 := by
    have h1 : ∀ j, qbyteAt t j < 256 := fun j => UInt8.toNat_lt _
    have := h1 4; have := h1 (4 + 1)
    unfold at2 le2
    omega
  have hl4 : qat4 t 0 < 4294967296 := by
    have h1 : ∀ j, qbyteAt t j < 256 := fun j => UInt8.toNat_lt _
    have := h1 0; have := h1 (0 + 1); have := h1 (0 + 2); have := h1 (0 + 3)
    unfold qat4 le4
    omega
  show Calls Tryz.prog 160 #[.string t] w fun e w' => e = .returned (lkV (qat4 t 0 : Int) (decS t)) ∧ Below w.heap.size w w'
  unfold decS
  generalize qat4 t 0 = i at *
  generalize at2 t 4 = n at *
  generalize hnm0 : t.extract 8 (min (8 + n) 64) = nm
  have HNM : Hid (t.extract 8 (min (8 + n) 64) = nm) := hnm0
  clear hnm0
  have hb0 := below_new1 w (.cells #[.int .i64 0, .string ⟨#[]⟩] 54)
  have hk0 : Blk (w.alloc (.cells #[.int .i64 0, .string ⟨#[]⟩] 54)) w.heap.size 54 #[.int .i64 0, .string ⟨#[]⟩] := Blk.new _ _ _
  have H0 : Hid (_ ∧ _) := ⟨hb0, hk0⟩
  clear hb0 hk0
  go_enter Tryz.func160, Tryz.ntmps160
  go_wp2_with fail
  generalize w.alloc (.cells #[.int .i64 0, .string ⟨#[]⟩] 54) = w1 at H0 ⊢
  refine (HT4.out _).mono ?_
  intro e w2 hw2
  obtain ⟨he2, hb2⟩ := hw2
  subst he2
  have H2 : Hid (Below w.heap.size w w2 ∧ Blk w2 w.heap.size 54 #[.int .i64 0, .string ⟨#[]⟩]) := ⟨H0.out.1.trans (hb2.mono H0.out.1.size), H0.out.2.below hb2 H0.out.2.lt⟩
  clear hb2 H0
  go_wp2_with fail
  refine (HT2.out _).mono ?_
  intro e w3 hw3
  obtain ⟨he3, hb3⟩ := hw3
  subst he3
  have H3 : Hid (Below w.heap.size w w3 ∧ Blk w3 w.heap.size 54 #[.int .i64 0, .string ⟨#[]⟩]) := ⟨H2.out.1.trans (hb3.mono H2.out.1.size), H2.out.2.below hb3 H2.out.2.lt⟩
  clear hb3 H2
  have hw4 : IntKind.i64.wrap (i : Int) = (i : Int) := wrap_small _ (by omega) (by omega)
  have hw2 : IntKind.i64.wrap (n : Int) = (n : Int) := wrap_small _ (by omega) (by omega)
  have hnm : t.extract 8 (min (8 + (n : Int)) 64).toNat = nm := by
    rw [← HNM.out, show (min (8 + (n : Int)) 64).toNat = min (8 + n) 64 from by omega]
  have HCL : Hid (∀ w : World, Calls Tryz.prog 58 #[.string nm] w fun e w' => e = .returned (.string nm) ∧ Below w.heap.size w w') := sclone_any nm (by rw [← HNM.out, ByteArray.size_extract]; omega)
  go_wp2_with fail
  refine (HCL.out _).mono ?_
  intro e w4 hw4
  obtain ⟨he4, hb4⟩ := hw4
  subst he4
  have H4 : Hid (Below w.heap.size w w4 ∧ Blk w4 w.heap.size 54 #[.int .i64 0, .string ⟨#[]⟩]) := ⟨H3.out.1.trans (hb4.mono H3.out.1.size), H3.out.2.below hb4 H3.out.2.lt⟩
  clear hb4 H3
  have c0 : w4.cell? ⟨w.heap.size, 0, none⟩ = some (.int .i64 0) := H4.out.2.cell 0
  have c1 : w4.cell? ⟨w.heap.size, 1, none⟩ = some (.string ⟨#[]⟩) := H4.out.2.cell 1
  have f0 : w4.frozen? ⟨w.heap.size, 0, none⟩ = false := H4.out.2.frozen 0
  have f1 : w4.frozen? ⟨w.heap.size, 1, none⟩ = false := H4.out.2.frozen 1
  go_wp2_with fail
  try simp only [Exit.inBlock, Exit.then]
  refine bodyPost_ret (results_cell_row Tryz.results160 _ _ w.heap.size 54 #[.int .i64 (i : Int), .string nm] (0, 0) _ rfl ((H4.out.2.put 0 (.int .i64 (i : Int))).put 1 (.string nm)) Tryz.underlying54 rfl (sizeLk.trans (by rfl))) rfl ?_
  exact ⟨rfl, (H4.out.1.setCell (Nat.le_refl _) _).setCell (Nat.le_refl _) _⟩
end Go.Proofs.YtimjggkdpmgpjaaGreatDoor

namespace Go.Proofs.YtimjggkdpmgpjaaGreatDoor
set_option maxRecDepth 20000
open Go Go.RowKit
set_option linter.unusedVariables false
set_option linter.unusedSimpArgs false
def zT (t : ByteArray) : Bool := t.data.toList.all (· == 0)
def decOk (t : ByteArray) : Bool := decide (encE (decI t) (decS t) = 0) && (encT (decI t) (decS t)).toList == t.toList
/-- what Decode answers: the number, the name, whether there is one, the error -/
def decV (s : ByteArray) (a : Int) : Int × ByteArray × Bool × Int :=
  if 0 ≤ a ∧ a ≤ (s.size : Int) - 64 then
    (if zT (s.extract a.toNat (a.toNat + 64)) = true then (0, ⟨#[]⟩, false, 0)
     else if decOk (s.extract a.toNat (a.toNat + 64)) = true then ((decI (s.extract a.toNat (a.toNat + 64)) : Int), decS (s.extract a.toNat (a.toNat + 64)), true, 0) else (0, ⟨#[]⟩, false, 131))
  else (0, ⟨#[]⟩, false, 131)
theorem dw0 (p : UInt8 → Bool) : ∀ l : List UInt8, l.dropWhile p = [] ↔ ∀ x ∈ l, p x = true
  | [] => by simp
  | a :: l => by
    rw [List.dropWhile_cons]
    by_cases h : p a = true
    · rw [if_pos h, dw0 p l]; simp [h]
    · rw [if_neg h]; simp [h]
theorem tw0 (p : UInt8 → Bool) : ∀ (l : List UInt8) x, x ∈ l.takeWhile p → p x = true
  | [], x, h => by simp at h
  | a :: l, x, h => by
    rw [List.takeWhile_cons] at h
    by_cases h1 : p a = true
    · rw [if_pos h1] at h
      rcases List.mem_cons.1 h with rfl | h
      · exact h1
      · exact tw0 p l x h
    · rw [if_neg h1] at h; simp at h
theorem trim_zero (t : ByteArray) : (⟨(Lib.trimB t.data.toList 0).toArray⟩ : ByteArray).toList.isEmpty = zT t := by
  rw [Lib.toList_data]
  unfold zT Lib.trimB Lib.trimLeftB Lib.trimRightB
  generalize t.data.toList = l
  show (((l.reverse.dropWhile (· == 0)).reverse).dropWhile (· == 0)).isEmpty = _
  have h : (((l.reverse.dropWhile (· == 0)).reverse).dropWhile (· == 0)) = [] ↔ ∀ x ∈ l, (x == 0) = true := by
    constructor
    · intro h
      have h1 := (dw0 _ _).1 h
      have h2 : ∀ x ∈ l.reverse, (x == 0) = true := by
        intro x hx
        rw [← List.takeWhile_append_dropWhile (p := (· == 0)) (l := l.reverse)] at hx
        rcases List.mem_append.1 hx with h3 | h3
        · exact tw0 (fun x => x == 0) _ x h3
        · exact h1 x (by simpa using h3)
      intro x hx; exact h2 x (by simpa using hx)
    · intro h
      have : l.reverse.dropWhile (· == 0) = [] := (dw0 _ _).2 fun x hx => h x (by simpa using hx)
      rw [this]; rfl
  cases hq : (l.all (· == 0))
  · have : ¬ (((l.reverse.dropWhile (· == 0)).reverse).dropWhile (· == 0)) = [] := by
      rw [h]; intro h4; rw [List.all_eq_true.2 h4] at hq; cases hq
    cases hl : (((l.reverse.dropWhile (· == 0)).reverse).dropWhile (· == 0)) with
    | nil => exact absurd hl this
    | cons => rfl
  · rw [h.2 (List.all_eq_true.1 hq)]; rfl
abbrev retD (r : Int × ByteArray × Bool × Int) : Ending := .returned (.tuple #[lkV r.1 r.2.1, .bool r.2.2.1, .int .i64 r.2.2.2])
section
variable (s : ByteArray)
set_option maxHeartbeats 4000000 in
theorem decode_bad (a : Int) (h : ¬ (0 ≤ a ∧ a ≤ (s.size : Int) - 64)) (hs : s.size ≤ 4611686018427387904) (w : World) :
    Calls Tryz.prog 129 #[.string s, .int .i64 a] w fun e w' => e = retD (0, ⟨#[]⟩, false, 131) ∧ Below w.heap.size w w' := by
  have hb0 := below_new1 w (.cells #[.int .i64 0, .string ⟨#[]⟩] 54)
  have hk0 : Blk (w.alloc (.cells #[.int .i64 0, .string ⟨#[]⟩] 54)) w.heap.size 54 #[.int .i64 0, .string ⟨#[]⟩] := Blk.new _ _ _
  have H0 : Hid (_ ∧ _) := ⟨hb0, hk0⟩
  have hc0 : (w.alloc (.cells #[.int .i64 0, .string ⟨#[]⟩] 54)).cell? ⟨w.heap.size, 0, none⟩ = some (.int .i64 0) := hk0.cell 0
  have hc1 : (w.alloc (.cells #[.int .i64 0, .string ⟨#[]⟩] 54)).cell? ⟨w.heap.size, 1, none⟩ = some (.string ⟨#[]⟩) := hk0.cell 1
  have f0 : (w.alloc (.cells #[.int .i64 0, .string ⟨#[]⟩] 54)).frozen? ⟨w.heap.size, 0, none⟩ = false := hk0.frozen 0
  have f1 : (w.alloc (.cells #[.int .i64 0, .string ⟨#[]⟩] 54)).frozen? ⟨w.heap.size, 1, none⟩ = false := hk0.frozen 1
  clear hb0 hk0
  by_cases h1 : a < 0
  · clear h
    go_enter Tryz.func129, Tryz.ntmps129
    go_wp2_with fail
    try simp only [Exit.inBlock, Exit.then]
    refine bodyPost_ret (res_row3 Tryz.results129 _ _ w.heap.size 54 #[.int .i64 0, .string ⟨#[]⟩] (0, 0) _ rfl H0.out.2 Tryz.underlying54 rfl (sizeLk.trans (by rfl))) rfl ?_
    exact ⟨rfl, H0.out.1⟩
  · have h2 : (s.size : Int) - 64 < a := by omega
    clear h
    go_enter Tryz.func129, Tryz.ntmps129
    go_wp2_with fail
    try simp only [Exit.inBlock, Exit.then]
    refine bodyPost_ret (res_row3 Tryz.results129 _ _ w.heap.size 54 #[.int .i64 0, .string ⟨#[]⟩] (0, 0) _ rfl H0.out.2 Tryz.underlying54 rfl (sizeLk.trans (by rfl))) rfl ?_
    exact ⟨rfl, H0.out.1⟩
set_option maxHeartbeats 4000000 in
theorem decode_fit (a : Nat) (h : a + 64 ≤ s.size) (hs : s.size ≤ 4611686018427387904) (t : ByteArray) (ht : s.extract a (a + 64) = t) (w : World) :
    Calls Tryz.prog 129 #[.string s, .int .i64 (a : Int)] w fun e w' => e = retD (if zT t = true then (0, ⟨#[]⟩, false, 0) else if decOk t = true then ((decI t : Int), decS t, true, 0) else (0, ⟨#[]⟩, false, 131)) ∧ Below w.heap.size w w' := by
  have h64 : t.size = 64 := by rw [← ht, ByteArray.size_extract]; omega
  have HTR : Hid (∀ w : World, Calls Tryz.prog 121 #[.string t, .string ⟨#[0]⟩] w fun e w' => e = .returned (.string ⟨(Lib.trimB t.data.toList 0).toArray⟩) ∧ Below w.heap.size w w') := trim_one t 0 (by decide) (by omega)
  have hze := trim_zero t
  generalize (⟨(Lib.trimB t.data.toList 0).toArray⟩ : ByteArray) = tr at HTR hze
  have HP : Hid (∀ w : World, Calls Tryz.prog 160 #[.string t] w fun e w' => e = .returned (.agg #[.int .i64 (decI t : Int), .string (decS t)]) ∧ Below w.heap.size w w') := parts_any t h64
  have HE : Hid (∀ w : World, Calls Tryz.prog 49 #[.agg #[.int .i64 (decI t : Int), .string (decS t)]] w fun e w' => e = .returned (.tuple #[.string (encT (decI t) (decS t)), .int .i64 (encE (decI t) (decS t))]) ∧ Below w.heap.size w w') := encode_any _ _
  have hok : decOk t = (decide (encE (decI t) (decS t) = 0) && (encT (decI t) (decS t)).toList == t.toList) := rfl
  generalize decOk t = ok at *
  generalize zT t = z at *
  generalize encE (decI t) (decS t) = ee at *
  generalize encT (decI t) (decS t) = et at *
  generalize decI t = di at *
  generalize decS t = ds at *
  have hb0 := below_new1 w (.cells #[.int .i64 0, .string ⟨#[]⟩] 54)
  have hk0 : Blk (w.alloc (.cells #[.int .i64 0, .string ⟨#[]⟩] 54)) w.heap.size 54 #[.int .i64 0, .string ⟨#[]⟩] := Blk.new _ _ _
  have H0 : Hid (_ ∧ _) := ⟨hb0, hk0⟩
  clear hb0 hk0
  have a1 : ¬ ((a : Int) < 0) := by omega
  have a2 : ¬ ((s.size : Int) - 64 < (a : Int)) := by omega
  have hw2 : IntKind.i64.wrap ((a : Int) + 64) = (a : Int) + 64 := wrap_small _ (by omega) (by omega)
  generalize hres : (if z = true then ((0 : Int), (⟨#[]⟩ : ByteArray), false, (0 : Int)) else if ok = true then ((di : Int), ds, true, 0) else (0, ⟨#[]⟩, false, 131)) = res
  have HRES : Hid ((if z = true then ((0 : Int), (⟨#[]⟩ : ByteArray), false, (0 : Int)) else if ok = true then ((di : Int), ds, true, 0) else (0, ⟨#[]⟩, false, 131)) = res) := hres
  clear hres
  go_enter Tryz.func129, Tryz.ntmps129
  go_wp2_with fail
  generalize w.alloc (.cells #[.int .i64 0, .string ⟨#[]⟩] 54) = w1 at H0 ⊢
  refine (HTR.out _).mono ?_
  intro e w2 hw2
  obtain ⟨he2, hb2⟩ := hw2
  subst he2
  have H2 : Hid (Below w.heap.size w w2 ∧ Blk w2 w.heap.size 54 #[.int .i64 0, .string ⟨#[]⟩]) := ⟨H0.out.1.trans (hb2.mono H0.out.1.size), H0.out.2.below hb2 H0.out.2.lt⟩
  clear hb2 H0
  cases z
  · simp only [Bool.false_eq_true, if_false] at HRES
    go_wp2_with fail
    refine (HP.out _).mono ?_
    intro e w3 hw3
    obtain ⟨he3, hb3⟩ := hw3
    subst he3
    have H3 : Hid (Below w.heap.size w w3 ∧ Blk w3 w.heap.size 54 #[.int .i64 0, .string ⟨#[]⟩]) := ⟨H2.out.1.trans (hb3.mono H2.out.1.size), H2.out.2.below hb3 H2.out.2.lt⟩
    clear hb3 H2
    go_wp2_with fail
    have H4 : Hid (Below w.heap.size w (w3.alloc (.cells #[.int .i64 (di : Int), .string ds] 54)) ∧ Blk (w3.alloc (.cells #[.int .i64 (di : Int), .string ds] 54)) w.heap.size 54 #[.int .i64 0, .string ⟨#[]⟩] ∧ Blk (w3.alloc (.cells #[.int .i64 (di : Int), .string ds] 54)) w3.heap.size 54 #[.int .i64 (di : Int), .string ds] ∧ w.heap.size < w3.heap.size) :=
      ⟨H3.out.1.alloc H3.out.1.size _, H3.out.2.alloc _, Blk.new _ _ _, H3.out.2.lt⟩
    clear H3
    generalize w3.alloc (.cells #[.int .i64 (di : Int), .string ds] 54) = w4 at H4 ⊢
    refine (HE.out _).mono ?_
    intro e w5 hw5
    obtain ⟨he5, hb5⟩ := hw5
    subst he5
    have H5 : Hid (Below w.heap.size w w5 ∧ Blk w5 w.heap.size 54 #[.int .i64 0, .string ⟨#[]⟩] ∧ Blk w5 w3.heap.size 54 #[.int .i64 (di : Int), .string ds] ∧ w.heap.size < w3.heap.size) :=
      ⟨H4.out.1.trans (hb5.mono H4.out.1.size), H4.out.2.1.below hb5 H4.out.2.1.lt, H4.out.2.2.1.below hb5 H4.out.2.2.1.lt, H4.out.2.2.2⟩
    clear hb5 H4
    by_cases q1 : ee = 0
    · have b1 : (ee != 0) = false := by rw [q1]; rfl
      cases q2 : (et.toList == t.toList)
      · obtain rfl : ok = false := by rw [hok, q1, q2]; rfl
        obtain rfl : (0, ⟨#[]⟩, false, 131) = res := HRES.out
        clear hok q1
        have c0 : w5.cell? ⟨w.heap.size, 0, none⟩ = some (.int .i64 0) := H5.out.2.1.cell 0
        have c1 : w5.cell? ⟨w.heap.size, 1, none⟩ = some (.string ⟨#[]⟩) := H5.out.2.1.cell 1
        have f0 : w5.frozen? ⟨w.heap.size, 0, none⟩ = false := H5.out.2.1.frozen 0
        have f1 : w5.frozen? ⟨w.heap.size, 1, none⟩ = false := H5.out.2.1.frozen 1
        go_wp2_with fail
        try simp only [Exit.inBlock, Exit.then]
        refine bodyPost_ret (res_row3 Tryz.results129 _ _ w.heap.size 54 #[.int .i64 0, .string ⟨#[]⟩] (0, 0) _ rfl ((H5.out.2.1.put 0 (.int .i64 0)).put 1 (.string ⟨#[]⟩)) Tryz.underlying54 rfl (sizeLk.trans (by rfl))) rfl ?_
        exact ⟨rfl, (H5.out.1.setCell (Nat.le_refl _) _).setCell (Nat.le_refl _) _⟩
      · obtain rfl : ok = true := by rw [hok, q1, q2]; rfl
        obtain rfl : ((di : Int), ds, true, 0) = res := HRES.out
        clear hok q1
        have c0 : w5.cell? ⟨w.heap.size, 0, none⟩ = some (.int .i64 0) := H5.out.2.1.cell 0
        have c1 : w5.cell? ⟨w.heap.size, 1, none⟩ = some (.string ⟨#[]⟩) := H5.out.2.1.cell 1
        have f0 : w5.frozen? ⟨w.heap.size, 0, none⟩ = false := H5.out.2.1.frozen 0
        have f1 : w5.frozen? ⟨w.heap.size, 1, none⟩ = false := H5.out.2.1.frozen 1
        have x0 : w5.cell? ⟨w3.heap.size, 0, none⟩ = some (.int .i64 (di : Int)) := H5.out.2.2.1.cell 0
        have x1 : w5.cell? ⟨w3.heap.size, 1, none⟩ = some (.string ds) := H5.out.2.2.1.cell 1
        go_wp2_with fail
        try simp only [Exit.inBlock, Exit.then]
        refine bodyPost_ret (res_row3 Tryz.results129 _ _ w.heap.size 54 #[.int .i64 (di : Int), .string ds] (0, 0) _ rfl ((H5.out.2.1.put 0 (.int .i64 (di : Int))).put 1 (.string ds)) Tryz.underlying54 rfl (sizeLk.trans (by rfl))) rfl ?_
        exact ⟨rfl, (H5.out.1.setCell (Nat.le_refl _) _).setCell (Nat.le_refl _) _⟩
    · have b1 : (ee != 0) = true := bne_iff_ne.2 q1
      obtain rfl : ok = false := by rw [hok, decide_eq_false q1]; rfl
      obtain rfl : (0, ⟨#[]⟩, false, 131) = res := HRES.out
      clear hok q1
      have c0 : w5.cell? ⟨w.heap.size, 0, none⟩ = some (.int .i64 0) := H5.out.2.1.cell 0
      have c1 : w5.cell? ⟨w.heap.size, 1, none⟩ = some (.string ⟨#[]⟩) := H5.out.2.1.cell 1
      have f0 : w5.frozen? ⟨w.heap.size, 0, none⟩ = false := H5.out.2.1.frozen 0
      have f1 : w5.frozen? ⟨w.heap.size, 1, none⟩ = false := H5.out.2.1.frozen 1
      go_wp2_with fail
      try simp only [Exit.inBlock, Exit.then]
      refine bodyPost_ret (res_row3 Tryz.results129 _ _ w.heap.size 54 #[.int .i64 0, .string ⟨#[]⟩] (0, 0) _ rfl ((H5.out.2.1.put 0 (.int .i64 0)).put 1 (.string ⟨#[]⟩)) Tryz.underlying54 rfl (sizeLk.trans (by rfl))) rfl ?_
      exact ⟨rfl, (H5.out.1.setCell (Nat.le_refl _) _).setCell (Nat.le_refl _) _⟩
  · obtain rfl : (0, ⟨#[]⟩, false, 0) = res := HRES.out
    have c0 : w2.cell? ⟨w.heap.size, 0, none⟩ = some (.int .i64 0) := H2.out.2.cell 0
    have c1 : w2.cell? ⟨w.heap.size, 1, none⟩ = some (.string ⟨#[]⟩) := H2.out.2.cell 1
    have f0 : w2.frozen? ⟨w.heap.size, 0, none⟩ = false := H2.out.2.frozen 0
    have f1 : w2.frozen? ⟨w.heap.size, 1, none⟩ = false := H2.out.2.frozen 1
    go_wp2_with fail
    try simp only [Exit.inBlock, Exit.then]
    refine bodyPost_ret (res_row3 Tryz.results129 _ _ w.heap.size 54 #[.int .i64 0, .string ⟨#[]⟩] (0, 0) _ rfl ((H2.out.2.put 0 (.int .i64 0)).put 1 (.string ⟨#[]⟩)) Tryz.underlying54 rfl (sizeLk.trans (by rfl))) rfl ?_
    exact ⟨rfl, (H2.out.1.setCell (Nat.le_refl _) _).setCell (Nat.le_refl _) _⟩
theorem decode_any (a : Int) (hs : s.size ≤ 4611686018427387904) (w : World) :
    Calls Tryz.prog 129 #[.string s, .int .i64 a] w fun e w' => e = retD (decV s a) ∧ Below w.heap.size w w' := by
  by_cases h : 0 ≤ a ∧ a ≤ (s.size : Int) - 64
  · obtain ⟨n, rfl⟩ : ∃ n : Nat, a = (n : Int) := ⟨a.toNat, by omega⟩
    unfold decV
    rw [if_pos h, Int.toNat_natCast]
    exact decode_fit s n (by omega) hs _ rfl w
  · unfold decV
    rw [if_neg h]
    exact decode_bad s a h hs w
end
end Go.Proofs.YtimjggkdpmgpjaaGreatDoor
