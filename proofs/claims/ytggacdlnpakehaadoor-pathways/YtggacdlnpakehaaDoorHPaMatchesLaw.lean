/- The statement of patterns of paths. -/
import Derived.Test.YtggacdlnpakehaaDoorHPaClean
import Derived.Test.YtggacdlnpakehaaDoorHOrders
import Derived.Shelf.Strings.Runes
import Derived.Shelf.Strings.IndexAnyAll
import Derived.Laws.Runes
import Derived.Laws.RangeAny
import Derived.Laws.RangeString
import Derived.BigQuiet
import Derived.Deep.QuietTactic
import Derived.WalkMore
import Derived.Handy
import Derived.Lib.IndexAny
import Derived.Lib.OthersKept
import Derived.Test.YtggacdlnpakehaaDoorHPaRef
import Derived.Test.YtggacdlnpakehaaDoorHPaMatch
import Derived.Test.YtggacdlnpakehaaDoorHRowf
import Derived.Test.YtggacdlnpakehaaDoorRows
import Derived.ChangeKeysEq
import Derived.WalkKit
import Derived.Laws.BytesArg
import Derived.Laws.ResultCell
import Derived.Laws.MakeOwn

namespace Go.Proofs.YtggacdlnpakehaaDoor
open Go Go.RowKit Go.Shelf
set_option linter.unusedVariables false
set_option linter.unusedSimpArgs false
/-- what is read: the text itself, or the base, a slash and the text -/
def jnS (b s : ByteArray) : ByteArray := if s.data.toList[0]? = some 47 then s else b ++ ⟨#[47]⟩ ++ s
set_option maxRecDepth 100000 in
set_option maxHeartbeats 4000000 in
theorem pjoin_any (b s : ByteArray) (hb : b.size ≤ 140737488355327) (hs : s.size ≤ 140737488355327) (w : World) : Calls Tryd.prog 8 #[.string b, .string s] w fun e w' => e = .returned (.tuple #[.string (clnS (jnS b s).data.toList), .int .i64 (prs (jnS b s).data.toList).2.2.2]) ∧ Below w.heap.size w w' := by
  have HC : Hid (∀ w : World, Calls Tryd.prog 9 #[.string (jnS b s)] w fun e w' => e = .returned (.tuple #[.string (clnS (jnS b s).data.toList), .int .i64 (prs (jnS b s).data.toList).2.2.2]) ∧ Below w.heap.size w w') := clean_any (jnS b s)
  have hX := prefix_any s
  generalize clnS (jnS b s).data.toList = q at *
  generalize (prs (jnS b s).data.toList).2.2.2 = z at *
  by_cases h47 : s.data.toList[0]? = some 47
  · have hj : jnS b s = s := by unfold jnS; rw [if_pos h47]
    rw [hj] at HC
    have HX : Hid (∀ w : World, Calls Tryd.prog 19 #[.string s, .string ⟨#[47]⟩] w fun e w' => e = .returned (.bool true) ∧ w' = w) := fun w => by
      have := hX w
      rwa [decide_eq_true h47] at this
    clear hj hX h47
    go_enter Tryd.func8, Tryd.ntmps8
    go_wp2_with fail
    refine (HX.out _).mono ?_
    rintro e w9 ⟨rfl, hw9⟩
    subst w9
    go_wp2_with fail
    refine (HC.out _).mono ?_
    rintro e w3 ⟨rfl, hb3⟩
    go_wp2_with fail
    go_ret2
    exact ⟨rfl, hb3⟩
  · obtain ⟨t, ht⟩ : ∃ t : ByteArray, b ++ (⟨#[47]⟩ : ByteArray) ++ s = t := ⟨_, rfl⟩
    have hj : jnS b s = t := by unfold jnS; rw [if_neg h47]; exact ht
    rw [hj] at HC
    have HX : Hid (∀ w : World, Calls Tryd.prog 19 #[.string s, .string ⟨#[47]⟩] w fun e w' => e = .returned (.bool false) ∧ w' = w) := fun w => by
      have := hX w
      rwa [decide_eq_false h47] at this
    have hz1 : (b ++ (⟨#[47]⟩ : ByteArray)).size = b.size + 1 := ByteArray.size_append
    have hz2 : (b ++ (⟨#[47]⟩ : ByteArray) ++ s).size = b.size + 1 + s.size := by rw [ByteArray.size_append, hz1]
    clear hj hX h47
    go_enter Tryd.func8, Tryd.ntmps8
    go_wp2_with fail
    refine (HX.out _).mono ?_
    rintro e w9 ⟨rfl, hw9⟩
    subst w9
    go_wp2_with fail
    refine (HC.out _).mono ?_
    rintro e w3 ⟨rfl, hb3⟩
    go_wp2_with fail
    go_ret2
    exact ⟨rfl, hb3⟩
end Go.Proofs.YtggacdlnpakehaaDoor

namespace Go.Proofs.YtggacdlnpakehaaDoor
set_option maxRecDepth 20000
open Go Go.RowKit
set_option linter.unusedVariables false
set_option linter.unusedSimpArgs false
/-- the two signs of patterns -/
abbrev wc2 : ByteArray := ⟨#[42, 63]⟩
set_option maxHeartbeats 4000000 in
theorem indexRune_high3 (r : Int) (h1 : 128 ≤ r) (h2 : r ≤ 2147483647) (w : World) :
    Calls Tryd.prog 37 #[.string wc2, .int .i32 r] w fun e w' => e = .returned (.int .i64 (-1)) ∧ Below w.heap.size w w' := by
  have i1 : (0 : Int) ≤ r := by omega
  have i2 : ¬ (r < 128) := by omega
  by_cases hE : r = 65533
  · subst hE
    clear i1 i2 h1 h2
    go_enter Tryd.func37, Tryd.ntmps37
    go_wp2_with fail
    go_loopg [5, 6] 2 (fun g _ _ wx => ∃ i : Nat, i + g = 2 ∧ wx = w.iter wc2 i)
    case atStart => exact ⟨0, by omega, rfl⟩
    case round =>
      obtain ⟨i, hig, rfl⟩ := hrel
      cases gk with
      | zero =>
        obtain rfl : i = 2 := by omega
        have hnx := run_next_end (P := Tryd.prog) w wc2 2
        go_wp2
        go_ret
        exact ⟨rfl, (Below.refl _ _).alloc (Nat.le_refl _) _⟩
      | succ g =>
        have hi : i < wc2.size := by show i < 2; omega
        have hnx := fun ty => run_next_ascii (P := Tryd.prog) w wc2 i ty hi (by rcases (show i = 0 ∨ i = 1 by omega) with rfl | rfl; exact (show (42 : UInt8).toNat < 128 by decide); exact (show (63 : UInt8).toNat < 128 by decide))
        have hne : (((wc2[i]'hi).toNat : Int) == 65533) = false := beq_eq_false_iff_ne.2 (by have := (wc2[i]'hi).toNat_lt; omega)
        generalize (wc2[i]'hi).toNat = x at hnx hne
        go_wp2
        go_roundg g
        case measure => omega
        case rel => exact ⟨i + 1, by omega, rfl⟩
  · have i3 : (r == 65533) = false := beq_eq_false_iff_ne.2 hE
    clear hE
    by_cases hv : (0 ≤ r ∧ r < 55296) ∨ (57343 < r ∧ r ≤ 1114111)
    · have hval : Utf8.valid r = true := by rw [validRune_eq]; exact decide_eq_true hv
      obtain ⟨e1, e2, e3⟩ := encode_facts r hval h1
      have HV := validRune_yes r hv
      clear hv hval
      go_enter Tryd.func37, Tryd.ntmps37
      go_wp2_with (first | (go_at_call 48; refine (HV _).mono ?_; rintro e w' ⟨rfl, rfl⟩))
      have hr := run_convert_int_string (P := Tryd.prog) w' 21 9 .i32 r (by kernel_rfl) Tryd.underlying9
      generalize Utf8.encode r = t at e1 e2 e3 hr
      go_step3
      go_wp2_with fail
      go_loopw [9] (fun v9 wr => v9 = .int .i64 ((t.size : Int) - 1) ∧ Below w'.heap.size w' wr) (fun _ _ => 0)
      case atStart => exact ⟨by first | rfl | simp, Below.refl _ _⟩
      case round =>
        obtain ⟨rfl, hb⟩ := hrel
        by_cases h2s : t.size = 2
        · have HB : Hid (Below w'.heap.size w' wr) := hb
          have hc := e3 (by omega)
          have hx : t.size - 1 = 1 := by omega
          have h1t : 1 < t.size := by omega
          have hc2 : 128 ≤ (t[1]'h1t).toNat := by simpa [h2s] using hc
          clear hc e3 hb hr e1 e2
          generalize hcc : t[1]'h1t = c at hc2
          have hne : (((wc2[1]'(by decide)).toNat : Int) != (c.toNat : Int)) = true := by
            rw [show wc2[1]'(by decide) = 63 from rfl, bne_iff_ne]
            show (63 : Int) ≠ _
            omega
          rw [show ((t.size : Int) - 1) = 1 from by omega]
          have hIB : ∀ w : World, Calls Tryd.prog 47 #[.string ByteArray.empty, .int .u8 (c.toNat : Int)] w fun e w' => e = .returned (.int .i64 (-1)) ∧ w' = w := indexByte_none c
          have hw2 : IntKind.i64.wrap 2 = 2 := by decide
          have hxx : wc2.extract 2 2 = ⟨#[]⟩ := by decide
          have hzz : wc2.size = 2 := rfl
          go_wp2_with fail
          go_step3
          go_wp2_with fail
          go_quiet (fail)
          have HB5 : Hid (Below w'.heap.size w' (wr.drewN nq)) := bdrewN HB.out _
          generalize wr.drewN nq = w5 at HB5 ⊢
          go_wp2_with fail
          go_quiet (first | (go_at_call 47; refine Calls.quiet_of_same (hIB _)))
          go_wp2_with fail
          rw [Exit.noGoto_ret]
          simp only [Exit.inBlock, Exit.then]
          show Exit.noGoto (Exit.inBlock 0 _) Exit.ret _ _
          rw [Exit.noGoto_ret]
          simp only [Exit.inBlock, Exit.then]
          rw [Exit.noGoto_ret]
          try simp only [Exit.inBlock, Exit.then]
          go_ret
          exact ⟨rfl, bdrewN HB5.out _⟩
        · have h3 : ¬ ((t.size : Int) - 1 < 2) := by omega
          have HB : Hid (Below w'.heap.size w' wr) := hb
          clear hb
          go_wp2_with fail
          go_ret
          exact ⟨rfl, HB.out⟩
    · have v1 : ¬ (r < 55296) := by omega
      by_cases v2 : 57343 < r
      · have v3 : ¬ (r ≤ 1114111) := by omega
        clear hv
        go_enter Tryd.func37, Tryd.ntmps37
        go_wp2_with (first | (go_at_call 48; go_in))
        go_ret
        exact ⟨rfl, Below.refl _ _⟩
      · clear hv
        go_enter Tryd.func37, Tryd.ntmps37
        go_wp2_with (first | (go_at_call 48; go_in))
        go_ret
        exact ⟨rfl, Below.refl _ _⟩
end Go.Proofs.YtggacdlnpakehaaDoor

namespace Go.Proofs.YtggacdlnpakehaaDoor
set_option maxRecDepth 20000
open Go Go.RowKit Go.Lib
set_option linter.unusedVariables false
set_option linter.unusedSimpArgs false
/-- one of the two among the first i -/
def Cl3 (l : List UInt8) (i : Nat) : Prop := ∀ j b, j < i → l[j]? = some b → b ≠ 42 ∧ b ≠ 63
def has3 (l : List UInt8) : Bool := l.any fun b => b == 42 || b == 63
theorem has2_no3 {l : List UInt8} (h : Cl3 l l.length) : has3 l = false := by
  unfold has3
  rw [List.any_eq_false]
  intro b hb
  obtain ⟨j, hj, rfl⟩ := List.getElem_of_mem hb
  have := h j _ hj (List.getElem?_eq_getElem hj)
  simp [this.1, this.2]
theorem has2_yes3 {l : List UInt8} {i : Nat} {b : UInt8} (h : l[i]? = some b) (hb : b = 42 ∨ b = 63) : has3 l = true := by
  unfold has3
  rw [List.any_eq_true]
  exact ⟨b, List.mem_of_getElem? h, by simpa using hb⟩
theorem Cl3.one {l : List UInt8} {i : Nat} {b : UInt8} (H : Cl3 l i) (h : l[i]? = some b) (h1 : b ≠ 42) (h2 : b ≠ 63) : Cl3 l (i + 1) := by
  intro j c hj hc
  by_cases e : j = i
  · subst e; rw [h] at hc; cases hc; exact ⟨h1, h2⟩
  · exact H j c (by omega) hc
theorem Cl3.more {l : List UInt8} {i d : Nat} (H : Cl3 l i) (h : ∀ j b, i ≤ j → j < i + d → l[j]? = some b → 128 ≤ b.toNat) : Cl3 l (i + d) := by
  intro j c hj hc
  by_cases e : j < i
  · exact H j c e hc
  · have := h j c (by omega) hj hc
    constructor
    · rintro rfl; revert this; decide
    · rintro rfl; revert this; decide
theorem wc2_has (x : UInt8) : (0 ≤ Lib.indexByte wc2.data.toList x) ↔ (x = 42 ∨ x = 63) := by
  have := Lib.contains_iff_indexByte wc2.data.toList x
  constructor
  · intro h
    rw [decide_eq_true h] at this
    simpa using this
  · intro h
    have h2 : wc2.data.toList.contains x = true := by simpa using h
    rw [h2] at this
    exact of_decide_eq_true this.symm
theorem indexRune_low3 (r : Int) (h0 : 0 ≤ r) (h1 : r < 128) (w : World) :
    Calls Tryd.prog 37 #[.string wc2, .int .i32 r] w fun e w' => e = .returned (.int .i64 (Lib.indexByte wc2.data.toList r.toNat.toUInt8)) ∧ w' = w :=
  Any.strings_IndexRune_ascii Tryd.indexRuneA wc2 r w h0 h1
set_option maxHeartbeats 4000000 in
theorem indexAny_short3 (s : ByteArray) (h8 : s.size ≤ 8) (w : World) :
    Calls Tryd.prog 24 #[.string s, .string wc2] w fun e w' => (∃ x : Int, e = .returned (.int .i64 x) ∧ decide (0 ≤ x) = has3 s.data.toList) ∧ Below w.heap.size w w' := by
  have HSL : Hid (s.size = s.data.toList.length) := Lib.size_eq s
  have h8z : ¬ ((8 : Int) < (s.size : Int)) := by omega
  go_enter Tryd.func24, Tryd.ntmps24
  go_wp2_with (first | (go_at_call 38; go_in))
  have hw0 : Hid ((w.iter s 0).heap[w.heap.size]? = some (.stringIter s 0) ∧ Below w.heap.size w (w.iter s 0)) := ⟨World.iter_heap w s 0, (Below.refl _ _).alloc (Nat.le_refl _) _⟩
  go_loopw [9] (fun _ wr => Hid (∃ i : Nat, i ≤ s.size ∧ wr.heap[w.heap.size]? = some (.stringIter s i) ∧ Below w.heap.size w wr ∧ Cl3 s.data.toList i)) (fun _ wr => s.size - wr.iterPos w.heap.size)
  case atStart => exact ⟨0, by omega, hw0.out.1, hw0.out.2, fun j b hj => by omega⟩
  case round =>
    obtain ⟨i, hin, hit, hb, hcl⟩ := Hid.out hrel
    clear hrel hw0
    have HB : Hid (Below w.heap.size w wr ∧ Cl3 s.data.toList i ∧ wr.heap[w.heap.size]? = some (.stringIter s i)) := ⟨hb, hcl, hit⟩
    clear hb hcl
    by_cases hi : i < s.size
    · have hnx := fun ty => run_next_any_at (P := Tryd.prog) wr w.heap.size s i ty hit hi
      have hxl := Lib.data_getElem? s i hi
      by_cases ha : (s[i]'hi).toNat < 128
      · have hd := decode_ascii s i hi ha
        rw [hd] at hnx
        generalize s[i]'hi = x at hxl ha hnx hd
        have HX : Hid (s.data.toList[i]? = some x) := hxl
        have hlow := indexRune_low3 (x.toNat : Int) (by omega) (by omega)
        have hback : ((x.toNat : Int)).toNat.toUInt8 = x := by simp
        rw [hback] at hlow
        have HK : Hid (0 ≤ Lib.indexByte wc2.data.toList x ↔ (x = 42 ∨ x = 63)) := wc2_has x
        generalize Lib.indexByte wc2.data.toList x = y at hlow HK
        clear hxl hd hback hit
        by_cases hy : 0 ≤ y
        · go_wp2_with (first | (go_at_call 37; refine (hlow _).mono ?_; rintro e w' ⟨rfl, rfl⟩))
          go_ret
          exact ⟨⟨_, rfl, by rw [has2_yes3 HX.out (HK.out.1 hy)]; exact decide_eq_true (by omega)⟩, below_iterAt HB.out.1 (Nat.le_refl _) _ _⟩
        · have HI : Hid ((wr.iterAt w.heap.size s (i + 1)).heap[w.heap.size]? = some (.stringIter s (i + 1))) := iterAt_heap wr w.heap.size s i (i + 1) HB.out.2.2
          go_wp2_with (first | (go_at_call 37; refine (hlow _).mono ?_; rintro e w' ⟨rfl, rfl⟩))
          go_roundw
          case rel => exact ⟨i + 1, by omega, HI.out, below_iterAt HB.out.1 (Nat.le_refl _) _ _, HB.out.2.1.one HX.out (fun h => absurd (HK.out.2 (Or.inl h)) (by omega)) (fun h => absurd (HK.out.2 (Or.inr h)) (by omega))⟩
          case measure => rw [iterPos_at HI.out, iterPos_at HB.out.2.2]; omega
      · have hd := decode_high s i hi (by omega)
        have hle := decode_le s i
        have HV : Hid (i + (Utf8.decode s i).2 ≤ s.size ∧ Cl3 s.data.toList (i + (Utf8.decode s i).2)) := ⟨valid_le s i hi, HB.out.2.1.more (decode_bytes s i hi (by omega))⟩
        generalize Utf8.decode s i = rd at hd hle HV hnx
        obtain ⟨r, d⟩ := rd
        simp only at hd hle HV hnx
        have HI : Hid ((wr.iterAt w.heap.size s (i + d)).heap[w.heap.size]? = some (.stringIter s (i + d))) := iterAt_heap wr w.heap.size s i (i + d) HB.out.2.2
        have hhi := indexRune_high3 (r : Int) (by omega) (by omega)
        have HD : Hid (1 ≤ d) := hd.2
        clear hd hle hxl ha hit
        go_wp2_with fail
        refine (hhi _).mono ?_
        intro e w2 hw2
        obtain ⟨he2, hw2⟩ := hw2
        subst he2
        have HB2 : Hid (w2.heap[w.heap.size]? = some (.stringIter s (i + d)) ∧ Below w.heap.size w w2) := by
          have hs2 : w.heap.size < (wr.iterAt w.heap.size s (i + d)).heap.size := (Array.getElem?_eq_some_iff.1 HI.out).1
          have hb3 : Below w.heap.size w (wr.iterAt w.heap.size s (i + d)) := below_iterAt HB.out.1 (Nat.le_refl _) _ _
          exact ⟨(hw2.block _ hs2).trans HI.out, hb3.trans (hw2.mono (by omega))⟩
        have HP : Hid (wr.iterPos w.heap.size = i) := iterPos_at HB.out.2.2
        clear hw2 HI
        go_wp2_with fail
        go_roundw
        case rel => exact ⟨i + d, HV.out.1, HB2.out.1, HB2.out.2, HV.out.2⟩
        case measure => rw [iterPos_at HB2.out.1, HP.out]; have := HD.out; omega
    · obtain rfl : i = s.size := by omega
      have hnx := fun ty => run_next_end_at (P := Tryd.prog) wr w.heap.size s s.size ty hit hi
      go_wp2_with fail
      go_ret
      exact ⟨⟨-1, rfl, by rw [has2_no3 (by rw [← HSL.out]; exact HB.out.2.1)]; rfl⟩, HB.out.1⟩
theorem has2_index3 : ∀ l : List UInt8, decide (0 ≤ Lib.indexAny l wc2.data.toList) = has3 l
  | [] => rfl
  | b :: l => by
    have ih := has2_index3 l
    have h1 := Lib.indexAny_ge wc2.data.toList l
    unfold Lib.indexAny has3
    by_cases hb : wc2.data.toList.contains b = true
    · rw [if_pos hb]
      have : b = 42 ∨ b = 63 := by simpa using hb
      simp [this]
    · rw [if_neg hb]
      have hn : ¬ (b = 42 ∨ b = 63) := by simpa using hb
      have e : (b == 42 || b == 63) = false := by simpa using hn
      rw [List.any_cons, e, Bool.false_or]
      show _ = has3 l
      rw [← ih]
      by_cases hm : Lib.indexAny l wc2.data.toList = -1
      · simp [hm]
      · have : (Lib.indexAny l wc2.data.toList == -1) = false := by simpa using hm
        rw [if_neg (by rw [this]; decide), decide_eq_decide]
        constructor
        · intro h; omega
        · intro h; omega
theorem indexAny_any3 (s : ByteArray) (hs : s.size < 4294967281) (w : World) :
    Calls Tryd.prog 24 #[.string s, .string wc2] w fun e w' => (∃ x : Int, e = .returned (.int .i64 x) ∧ decide (0 ≤ x) = has3 s.data.toList) ∧ Below w.heap.size w w' := by
  by_cases h8 : s.size ≤ 8
  · exact indexAny_short3 s h8 w
  · have hz := zero_of_info (P := Tryd.prog) (show (Tryd.prog.info? (Tryd.indexAnyA_ren.t 116)).map (fun i => (i.zero, i.size)) = some (some (.agg (Array.replicate 256 (.bool false))), 256) from by kernel_rfl)
    have h : Calls Tryd.prog 24 #[.string s, .string wc2] w _ := Any.strings_IndexAny_long Tryd.indexAnyA hz.1 hz.2 s wc2 w (by decide) (by omega) hs (by decide)
      (fun j b hb => by
        have : b ∈ wc2.data.toList := List.mem_of_getElem? hb
        have h2 : b = 42 ∨ b = 63 := by simpa using this
        rcases h2 with rfl | rfl <;> decide)
    refine h.mono fun e w' ⟨h1, h2⟩ => ⟨⟨_, h1, has2_index3 _⟩, ?_⟩
    rw [h2]
    exact ((Below.refl _ _).alloc (Nat.le_refl _) _).alloc (by simp) _
theorem containsAny_any3 (s : ByteArray) (hs : s.size < 4294967281) (w : World) :
    Calls Tryd.prog 11 #[.string s, .string wc2] w fun e w' => e = .returned (.bool (has3 s.data.toList)) ∧ Below w.heap.size w w' := by
  have HI : Hid (∀ w : World, Calls Tryd.prog 24 #[.string s, .string wc2] w fun e w' => (∃ x : Int, e = .returned (.int .i64 x) ∧ decide (0 ≤ x) = has3 s.data.toList) ∧ Below w.heap.size w w') := indexAny_any3 s hs
  go_enter Tryd.func11, Tryd.ntmps11
  go_wp2_with fail
  refine (HI.out _).mono ?_
  intro e w2 hw2
  obtain ⟨⟨x, rfl, hx⟩, hb⟩ := hw2
  have HX : Hid (decide (0 ≤ x) = has3 s.data.toList) := hx
  have HB : Hid (Below w.heap.size w w2) := hb
  clear hx hb
  go_wp2_with fail
  go_ret
  exact ⟨by rw [← HX.out]; rfl, HB.out⟩
end Go.Proofs.YtggacdlnpakehaaDoor

namespace Go.Proofs.YtggacdlnpakehaaDoor
open Go Go.RowKit Go.Shelf
set_option linter.unusedVariables false
set_option linter.unusedSimpArgs false
theorem prs_awake : prs [47, 97, 47, 47, 98, 47, 46, 47, 99, 47, 46, 46, 47, 100] = ([⟨#[97]⟩, ⟨#[98]⟩, ⟨#[100]⟩], false, 0, 0) := by kernel_rfl
set_option maxRecDepth 100000 in
set_option maxHeartbeats 4000000 in
theorem awake18_any (w : World) : Calls Tryd.prog 4 #[] w fun e w' => e = .returned (.bool true) ∧ Below w.heap.size w w' := by
  have HX : Hid (∀ w : World, Calls Tryd.prog 7 #[.string ⟨#[47, 97, 47, 47, 98, 47, 46, 47, 99, 47, 46, 46, 47, 100]⟩] w fun e w' => ∃ g cap, e = .returned (.tuple #[.agg #[.slice (some ⟨g, 0, none⟩) 3 cap, .bool false], .int .i64 0, .int .i64 0]) ∧ w'.cell? ⟨g, 2, none⟩ = some (.string ⟨#[100]⟩) ∧ g < w'.heap.size ∧ Below w.heap.size w w') := fun w => by
    refine (parse_any _ w).mono ?_
    rintro e w' ⟨v, he, ho, hb⟩
    have e1 : prs ((⟨#[47, 97, 47, 47, 98, 47, 46, 47, 99, 47, 46, 46, 47, 100]⟩ : ByteArray).data.toList) = ([⟨#[97]⟩, ⟨#[98]⟩, ⟨#[100]⟩], false, 0, 0) := prs_awake
    rw [e1] at he ho
    obtain ⟨g, cap, rfl⟩ := ownsRow_succ ho
    exact ⟨g, cap, he, ho.cellAt 2 (by decide), (ho.lt g rfl).2, hb⟩
  go_enter Tryd.func4, Tryd.ntmps4
  go_wp2_with fail
  refine (HX.out _).mono ?_
  rintro e w9 ⟨g, cap, rfl, hc, hg, hb⟩
  have hb2 := hb.alloc hb.size (.cells #[.slice (some ⟨g, 0, none⟩) 3 cap, .bool false] 30)
  have hc2 : (w9.alloc (.cells #[.slice (some ⟨g, 0, none⟩) 3 cap, .bool false] 30)).cell? ⟨g, 2, none⟩ = some (.string ⟨#[100]⟩) := (((Below.refl _ w9).alloc (Nat.le_refl _) _).cell (p := ⟨g, 2, none⟩) hg).trans hc
  go_wp2_with fail
  go_ret
  exact ⟨rfl, hb2⟩
end Go.Proofs.YtggacdlnpakehaaDoor

namespace Go.Proofs.YtggacdlnpakehaaDoor
open Go Go.RowKit Go.Shelf Go.Nam
set_option linter.unusedVariables false
set_option linter.unusedSimpArgs false
attribute [local go_sem] Oper.semAt_some
theorem runD_good : ∀ (X : List (Nat × ByteArray)) (N : List ByteArray) (d : Bool), N.length ≤ 32 → (∀ x ∈ N, x.size ≤ 56) → (runP N d X).1.length ≤ 32 ∧ ∀ x ∈ (runP N d X).1, x.size ≤ 56
  | [], N, d, h1, h2 => ⟨h1, h2⟩
  | x :: X, N, d, h1, h2 => by
    by_cases hb : badE N x.2 = 0
    · rw [runP_good hb]
      refine runD_good X _ _ ?_ ?_
      · unfold nxtN
        unfold badE at hb
        split
        · exact h1
        split
        · rw [List.length_dropLast]; omega
        · rename_i q1 q2
          rw [if_neg q1, if_neg q2] at hb
          rw [List.length_append]
          split at hb
          · split at hb
            · cases hb
            · show _ + 1 ≤ _; omega
          · cases hb
      · unfold nxtN
        unfold badE at hb
        split
        · exact h2
        split
        · exact fun y hy => h2 y (List.dropLast_subset _ hy)
        · rename_i q1 q2
          rw [if_neg q1, if_neg q2] at hb
          intro y hy
          rcases List.mem_append.1 hy with hy | hy
          · exact h2 y hy
          · rw [List.mem_singleton] at hy
            subst hy
            split at hb
            · rename_i q3
              rw [Lib.size_eq]
              exact (isName_len q3).2
            · cases hb
    · rw [runP_bad hb]
      exact ⟨by simp, by simp⟩
theorem prsD_good (l : List UInt8) : (prs l).1.length ≤ 32 ∧ ∀ x ∈ (prs l).1, x.size ≤ 56 := by
  unfold prs
  split
  · exact ⟨by simp, by simp⟩
  split
  · split
    · exact runD_good _ _ _ (by simp) (by simp)
    · exact ⟨by simp, by simp⟩
  · exact ⟨by simp, by simp⟩
end Go.Proofs.YtggacdlnpakehaaDoor
