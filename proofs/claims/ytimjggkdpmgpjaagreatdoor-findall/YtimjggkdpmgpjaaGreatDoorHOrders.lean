/- A region that draws its order, walked in one order: where each operation that is taken ahead of its turn yields its value in whatever world, or reads while those that may come before it read only, or is the only one that may come up, one walk in the order that is named serves every order. No program in it. -/
import Derived.Shelf.Strings.Trim
import Derived.Shelf.Strings.SlTrimAscii
import Derived.Shelf.Strings.IndexAnyAll
import Derived.Shelf.Small.Strs
import Derived.Shelf.Strings.Runes
import Derived.Shelf.Small.Wraps
import Derived.Shelf.Strconv.Clone
import Derived.Test.YtimjggkdpmgpjaaGreatDoorProg
import Derived.Handy
import Derived.Laws.Runes
import Derived.Laws.RangeAny
import Derived.Laws.RangeString
import Derived.BigQuiet
import Derived.Deep.QuietTactic
import Derived.WalkMore
import Derived.Lib.IndexAny
import Derived.Lib.OthersKept
import Derived.OrdersHeld
import Derived.Tactics
import Derived.Laws.World

namespace Go.Proofs
open Go.Shelf
def Tryz.trimA_ren : Go.Shelf.Ren := ⟨fun | 160 => 121 | 232 => 143 | 231 => 142 | 227 => 134 | 234 => 145 | 233 => 144 | 236 => 147 | 235 => 146 | 228 => 135 | 271 => 172 | 151 => 171 | 197 => 170 | 120 => 195 | 152 => 132 | 260 => 194 | 137 => 165 | 119 => 166 | 224 => 163 | 225 => 162 | 217 => 161 | 266 => 189 | n => n, fun | 9 => 9 | 4 => 4 | 3 => 3 | 5 => 5 | 117 => 251 | 116 => 250 | 0 => 0 | 124 => 259 | 21 => 21 | 105 => 280 | 46 => 278 | 119 => 206 | 139 => 324 | 138 => 323 | n => n, fun | 3 => 1 | 4 => 2 | n => n⟩
theorem Tryz.trimA : Go.Proofs.Lays.n160 Tryz.prog Tryz.trimA_ren := {
  mixed := by kernel_rfl
  f119 := Tryz.func166.trans (congrArg some (by kernel_rfl))
  f120 := Tryz.func195.trans (congrArg some (by kernel_rfl))
  f137 := Tryz.func165.trans (congrArg some (by kernel_rfl))
  f151 := Tryz.func171.trans (congrArg some (by kernel_rfl))
  f152 := Tryz.func132.trans (congrArg some (by kernel_rfl))
  f160 := Tryz.func121.trans (congrArg some (by kernel_rfl))
  f197 := Tryz.func170.trans (congrArg some (by kernel_rfl))
  f217 := Tryz.func161.trans (congrArg some (by kernel_rfl))
  f224 := Tryz.func163.trans (congrArg some (by kernel_rfl))
  f225 := Tryz.func162.trans (congrArg some (by kernel_rfl))
  f227 := Tryz.func134.trans (congrArg some (by kernel_rfl))
  f228 := Tryz.func135.trans (congrArg some (by kernel_rfl))
  f231 := Tryz.func142.trans (congrArg some (by kernel_rfl))
  f232 := Tryz.func143.trans (congrArg some (by kernel_rfl))
  f233 := Tryz.func144.trans (congrArg some (by kernel_rfl))
  f234 := Tryz.func145.trans (congrArg some (by kernel_rfl))
  f235 := Tryz.func146.trans (congrArg some (by kernel_rfl))
  f236 := Tryz.func147.trans (congrArg some (by kernel_rfl))
  f260 := Tryz.func194.trans (congrArg some (by kernel_rfl))
  f266 := Tryz.func189.trans (congrArg some (by kernel_rfl))
  f271 := Tryz.func172.trans (congrArg some (by kernel_rfl))
  t0 := Tryz.underlying0
  a0 := Tryz.isAgg0
  z0 := Tryz.sizeOf0
  v0 := Tryz.zeroValue0
  t3 := Tryz.underlying3
  a3 := Tryz.isAgg3
  z3 := Tryz.sizeOf3
  v3 := Tryz.zeroValue3
  t4 := Tryz.underlying4
  a4 := Tryz.isAgg4
  z4 := Tryz.sizeOf4
  v4 := Tryz.zeroValue4
  t5 := Tryz.underlying5
  a5 := Tryz.isAgg5
  z5 := Tryz.sizeOf5
  v5 := Tryz.zeroValue5
  t9 := Tryz.underlying9
  a9 := Tryz.isAgg9
  z9 := Tryz.sizeOf9
  v9 := Tryz.zeroValue9
  t21 := Tryz.underlying21
  a21 := Tryz.isAgg21
  z21 := Tryz.sizeOf21
  v21 := Tryz.zeroValue21
  t46 := Tryz.underlying278
  a46 := Tryz.isAgg278
  z46 := Tryz.sizeOf278
  v46 := Tryz.zeroValue278
  t105 := Tryz.underlying280
  a105 := Tryz.isAgg280
  z105 := Tryz.sizeOf280
  v105 := Tryz.zeroValue280
  t116 := Tryz.underlying250
  a116 := Tryz.isAgg250
  z116 := Tryz.sizeOf250
  t117 := Tryz.underlying251
  a117 := Tryz.isAgg251
  z117 := Tryz.sizeOf251
  v117 := Tryz.zeroValue251
  t119 := Tryz.underlying206
  a119 := Tryz.isAgg206
  z119 := Tryz.sizeOf206
  t124 := Tryz.underlying259
  a124 := Tryz.isAgg259
  z124 := Tryz.sizeOf259
  v124 := Tryz.zeroValue259
  t138 := Tryz.underlying323
  a138 := Tryz.isAgg323
  z138 := Tryz.sizeOf323
  v138 := Tryz.zeroValue323
  t139 := Tryz.underlying324
  a139 := Tryz.isAgg324
  z139 := Tryz.sizeOf324
  v139 := Tryz.zeroValue324
  g3 := by kernel_rfl
  g4 := by kernel_rfl }
def Tryz.compareA_ren : Go.Shelf.Ren := ⟨fun | 106 => 168 | 213 => 193 | 265 => 210 | n => n, fun | 9 => 9 | 3 => 3 | n => n, fun | n => n⟩
theorem Tryz.compareA : Go.Proofs.Lays.n106 Tryz.prog Tryz.compareA_ren := {
  mixed := by kernel_rfl
  f106 := Tryz.func168.trans (congrArg some (by kernel_rfl))
  f213 := Tryz.func193.trans (congrArg some (by kernel_rfl))
  f265 := Tryz.func210.trans (congrArg some (by kernel_rfl))
  t3 := Tryz.underlying3
  a3 := Tryz.isAgg3
  z3 := Tryz.sizeOf3
  v3 := Tryz.zeroValue3
  t9 := Tryz.underlying9
  a9 := Tryz.isAgg9
  z9 := Tryz.sizeOf9
  v9 := Tryz.zeroValue9 }
def Tryz.indexAnyA_ren : Go.Shelf.Ren := ⟨fun | 153 => 119 | 152 => 132 | 226 => 133 | 227 => 134 | 228 => 135 | 137 => 165 | 119 => 166 | 224 => 163 | 225 => 162 | 217 => 161 | 266 => 189 | n => n, fun | 9 => 9 | 3 => 3 | 4 => 4 | 5 => 5 | 21 => 21 | 117 => 251 | 116 => 250 | 0 => 0 | 46 => 278 | 124 => 259 | n => n, fun | n => n⟩
theorem Tryz.indexAnyA : Go.Proofs.Lays.n153 Tryz.prog Tryz.indexAnyA_ren := {
  mixed := by kernel_rfl
  f119 := Tryz.func166.trans (congrArg some (by kernel_rfl))
  f137 := Tryz.func165.trans (congrArg some (by kernel_rfl))
  f152 := Tryz.func132.trans (congrArg some (by kernel_rfl))
  f153 := Tryz.func119.trans (congrArg some (by kernel_rfl))
  f217 := Tryz.func161.trans (congrArg some (by kernel_rfl))
  f224 := Tryz.func163.trans (congrArg some (by kernel_rfl))
  f225 := Tryz.func162.trans (congrArg some (by kernel_rfl))
  f226 := Tryz.func133.trans (congrArg some (by kernel_rfl))
  f227 := Tryz.func134.trans (congrArg some (by kernel_rfl))
  f228 := Tryz.func135.trans (congrArg some (by kernel_rfl))
  f266 := Tryz.func189.trans (congrArg some (by kernel_rfl))
  t0 := Tryz.underlying0
  a0 := Tryz.isAgg0
  z0 := Tryz.sizeOf0
  v0 := Tryz.zeroValue0
  t3 := Tryz.underlying3
  a3 := Tryz.isAgg3
  z3 := Tryz.sizeOf3
  v3 := Tryz.zeroValue3
  t4 := Tryz.underlying4
  a4 := Tryz.isAgg4
  z4 := Tryz.sizeOf4
  v4 := Tryz.zeroValue4
  t5 := Tryz.underlying5
  a5 := Tryz.isAgg5
  z5 := Tryz.sizeOf5
  v5 := Tryz.zeroValue5
  t9 := Tryz.underlying9
  a9 := Tryz.isAgg9
  z9 := Tryz.sizeOf9
  v9 := Tryz.zeroValue9
  t21 := Tryz.underlying21
  a21 := Tryz.isAgg21
  z21 := Tryz.sizeOf21
  v21 := Tryz.zeroValue21
  t46 := Tryz.underlying278
  a46 := Tryz.isAgg278
  z46 := Tryz.sizeOf278
  v46 := Tryz.zeroValue278
  t116 := Tryz.underlying250
  a116 := Tryz.isAgg250
  z116 := Tryz.sizeOf250
  t117 := Tryz.underlying251
  a117 := Tryz.isAgg251
  z117 := Tryz.sizeOf251
  v117 := Tryz.zeroValue251
  t124 := Tryz.underlying259
  a124 := Tryz.isAgg259
  z124 := Tryz.sizeOf259
  v124 := Tryz.zeroValue259 }
def Tryz.cmpA_ren : Go.Shelf.Ren := ⟨fun | 122 => 141 | 215 => 169 | n => n, fun | 3 => 3 | 4 => 4 | n => n, fun | n => n⟩
theorem Tryz.cmpA : Go.Proofs.Lays.n122 Tryz.prog Tryz.cmpA_ren := {
  mixed := by kernel_rfl
  f122 := Tryz.func141.trans (congrArg some (by kernel_rfl))
  f215 := Tryz.func169.trans (congrArg some (by kernel_rfl))
  t3 := Tryz.underlying3
  a3 := Tryz.isAgg3
  z3 := Tryz.sizeOf3
  v3 := Tryz.zeroValue3
  t4 := Tryz.underlying4
  a4 := Tryz.isAgg4
  z4 := Tryz.sizeOf4
  v4 := Tryz.zeroValue4 }
def Tryz.indexByteA_ren : Go.Shelf.Ren := ⟨fun | 137 => 165 | 217 => 161 | 266 => 189 | n => n, fun | 9 => 9 | 5 => 5 | 3 => 3 | n => n, fun | n => n⟩
theorem Tryz.indexByteA : Go.Proofs.Lays.n137 Tryz.prog Tryz.indexByteA_ren := {
  mixed := by kernel_rfl
  f137 := Tryz.func165.trans (congrArg some (by kernel_rfl))
  f217 := Tryz.func161.trans (congrArg some (by kernel_rfl))
  f266 := Tryz.func189.trans (congrArg some (by kernel_rfl))
  t3 := Tryz.underlying3
  a3 := Tryz.isAgg3
  z3 := Tryz.sizeOf3
  v3 := Tryz.zeroValue3
  t5 := Tryz.underlying5
  a5 := Tryz.isAgg5
  z5 := Tryz.sizeOf5
  v5 := Tryz.zeroValue5
  t9 := Tryz.underlying9
  a9 := Tryz.isAgg9
  z9 := Tryz.sizeOf9
  v9 := Tryz.zeroValue9 }
def Tryz.indexRuneA_ren : Go.Shelf.Ren := ⟨fun | 152 => 132 | 137 => 165 | 119 => 166 | 224 => 163 | 225 => 162 | 217 => 161 | 266 => 189 | n => n, fun | 9 => 9 | 21 => 21 | 3 => 3 | 4 => 4 | 5 => 5 | 0 => 0 | 46 => 278 | n => n, fun | n => n⟩
theorem Tryz.indexRuneA : Go.Proofs.Lays.n152 Tryz.prog Tryz.indexRuneA_ren := {
  mixed := by kernel_rfl
  f119 := Tryz.func166.trans (congrArg some (by kernel_rfl))
  f137 := Tryz.func165.trans (congrArg some (by kernel_rfl))
  f152 := Tryz.func132.trans (congrArg some (by kernel_rfl))
  f217 := Tryz.func161.trans (congrArg some (by kernel_rfl))
  f224 := Tryz.func163.trans (congrArg some (by kernel_rfl))
  f225 := Tryz.func162.trans (congrArg some (by kernel_rfl))
  f266 := Tryz.func189.trans (congrArg some (by kernel_rfl))
  t0 := Tryz.underlying0
  a0 := Tryz.isAgg0
  z0 := Tryz.sizeOf0
  v0 := Tryz.zeroValue0
  t3 := Tryz.underlying3
  a3 := Tryz.isAgg3
  z3 := Tryz.sizeOf3
  v3 := Tryz.zeroValue3
  t4 := Tryz.underlying4
  a4 := Tryz.isAgg4
  z4 := Tryz.sizeOf4
  v4 := Tryz.zeroValue4
  t5 := Tryz.underlying5
  a5 := Tryz.isAgg5
  z5 := Tryz.sizeOf5
  v5 := Tryz.zeroValue5
  t9 := Tryz.underlying9
  a9 := Tryz.isAgg9
  z9 := Tryz.sizeOf9
  v9 := Tryz.zeroValue9
  t21 := Tryz.underlying21
  a21 := Tryz.isAgg21
  z21 := Tryz.sizeOf21
  v21 := Tryz.zeroValue21
  t46 := Tryz.underlying278
  a46 := Tryz.isAgg278
  z46 := Tryz.sizeOf278
  v46 := Tryz.zeroValue278 }
def Tryz.cloneA_ren : Go.Shelf.Ren := ⟨fun | 316 => 94 | n => n, fun | 9 => 9 | 3 => 3 | 4 => 4 | 37 => 190 | 0 => 0 | 127 => 234 | 5 => 5 | n => n, fun | n => n⟩
theorem Tryz.cloneA : Go.Proofs.LaysM.n316 Tryz.prog Tryz.cloneA_ren := {
  mixed := by kernel_rfl
  f316 := Tryz.func94.trans (congrArg some (by kernel_rfl))
  t0 := Tryz.underlying0
  a0 := Tryz.isAgg0
  z0 := Tryz.sizeOf0
  v0 := Tryz.zeroValue0
  t3 := Tryz.underlying3
  a3 := Tryz.isAgg3
  z3 := Tryz.sizeOf3
  v3 := Tryz.zeroValue3
  t4 := Tryz.underlying4
  a4 := Tryz.isAgg4
  z4 := Tryz.sizeOf4
  v4 := Tryz.zeroValue4
  t9 := Tryz.underlying9
  a9 := Tryz.isAgg9
  z9 := Tryz.sizeOf9
  v9 := Tryz.zeroValue9
  t37 := Tryz.underlying190
  a37 := Tryz.isAgg190
  z37 := Tryz.sizeOf190
  v37 := Tryz.zeroValue190
  t127 := Tryz.underlying234
  a127 := Tryz.isAgg234
  z127 := Tryz.sizeOf234
  v127 := Tryz.zeroValue234
  t5 := Tryz.underlying5
  a5 := Tryz.isAgg5
  z5 := Tryz.sizeOf5
  v5 := Tryz.zeroValue5
  i0 := by kernel_rfl
  i3 := by kernel_rfl
  i4 := by kernel_rfl
  i5 := by kernel_rfl
  i9 := by kernel_rfl
  i37 := by kernel_rfl
  i127 := by kernel_rfl }
end Go.Proofs

namespace Go.Proofs.YtimjggkdpmgpjaaGreatDoor
open Go Go.RowKit
set_option linter.unusedVariables false
theorem bdrewN {B : Nat} {a w : World} (h : Below B a w) (n : Nat) : Below B a (w.drewN n) := h.trans ⟨rfl, rfl, rfl, Nat.le_refl _, fun _ _ => rfl⟩
theorem trim_one (s : ByteArray) (c : UInt8) (hc : c.toNat < 128) (hs : s.size ≤ 9223372036854775807) (w : World) :
    Calls Tryz.prog 121 #[.string s, .string ⟨#[c]⟩] w fun e w' => e = .returned (.string ⟨(Lib.trimB s.data.toList c).toArray⟩) ∧ Below w.heap.size w w' :=
  (Any.strings_Trim_one Tryz.trimA s c hc w hs).mono fun e w' ⟨h1, h2⟩ => ⟨h1, by rcases h2 with rfl | rfl; exact Below.refl _ _; exact (Below.refl _ _).drew⟩
theorem scompare_any (a b : ByteArray) (w : World) :
    Calls Tryz.prog 168 #[.string a, .string b] w fun e w' => e = .returned (.int .i64 (Lib.compareBytes a.data.toList b.data.toList)) ∧ w' = w :=
  Any.strings_Compare Tryz.compareA a b w
theorem compareInt_any (x y : Int) (w : World) :
    Calls Tryz.prog 141 #[.int .i64 x, .int .i64 y] w fun e w' => e = .returned (.int .i64 (Lib.compareInt x y)) ∧ w' = w :=
  Any.cmp_Compare_int Tryz.cmpA x y w
end Go.Proofs.YtimjggkdpmgpjaaGreatDoor

namespace Go.Proofs.YtimjggkdpmgpjaaGreatDoor
set_option maxRecDepth 20000
open Go Go.RowKit
set_option linter.unusedVariables false
set_option linter.unusedSimpArgs false
/-- the two signs that no name has -/
abbrev no2 : ByteArray := ⟨#[0, 47]⟩
theorem indexByte_none (c : UInt8) (w : World) :
    Calls Tryz.prog 165 #[.string ⟨#[]⟩, .int .u8 (c.toNat : Int)] w fun e w' => e = .returned (.int .i64 (-1)) ∧ w' = w := by
  have h : Calls Tryz.prog 165 #[.string ⟨#[]⟩, .int .u8 (c.toNat : Int)] w fun e w' => e = .returned (.int .i64 (Lib.indexByte [] ((c.toNat : Int)).toNat.toUInt8)) ∧ w' = w := Any.strings_IndexByte Tryz.indexByteA ⟨#[]⟩ (c.toNat : Int) w
  exact h.mono fun e w' ⟨h1, h2⟩ => ⟨by rw [h1]; rfl, h2⟩
theorem validRune_yes (r : Int) (hv : (0 ≤ r ∧ r < 55296) ∨ (57343 < r ∧ r ≤ 1114111)) (w : World) :
    Calls Tryz.prog 166 #[.int .i32 r] w fun e w' => e = .returned (.bool true) ∧ w' = w := by
  by_cases h : 0 ≤ r ∧ r < 55296
  · obtain ⟨h1, h2⟩ := h
    clear hv
    go_enter Tryz.func166, Tryz.ntmps166
    go_wp2
    go_ret
    exact ⟨rfl, rfl⟩
  · have h1 : 0 ≤ r := by omega
    have h2 : ¬ r < 55296 := by omega
    have h3 : 57343 < r := by omega
    have h4 : r ≤ 1114111 := by omega
    clear hv h
    go_enter Tryz.func166, Tryz.ntmps166
    go_wp2
    go_ret
    exact ⟨rfl, rfl⟩
set_option maxHeartbeats 4000000 in
theorem indexRune_high (r : Int) (h1 : 128 ≤ r) (h2 : r ≤ 2147483647) (w : World) :
    Calls Tryz.prog 132 #[.string no2, .int .i32 r] w fun e w' => e = .returned (.int .i64 (-1)) ∧ Below w.heap.size w w' := by
  have i1 : (0 : Int) ≤ r := by omega
  have i2 : ¬ (r < 128) := by omega
  by_cases hE : r = 65533
  · subst hE
    clear i1 i2 h1 h2
    go_enter Tryz.func132, Tryz.ntmps132
    go_wp2_with fail
    go_loopg [5, 6] 2 (fun g _ _ wx => ∃ i : Nat, i + g = 2 ∧ wx = w.iter no2 i)
    case atStart => exact ⟨0, by omega, rfl⟩
    case round =>
      obtain ⟨i, hig, rfl⟩ := hrel
      cases gk with
      | zero =>
        obtain rfl : i = 2 := by omega
        have hnx := run_next_end (P := Tryz.prog) w no2 2
        go_wp2
        go_ret
        exact ⟨rfl, (Below.refl _ _).alloc (Nat.le_refl _) _⟩
      | succ g =>
        have hi : i < no2.size := by show i < 2; omega
        have hnx := fun ty => run_next_ascii (P := Tryz.prog) w no2 i ty hi (by rcases (show i = 0 ∨ i = 1 by omega) with rfl | rfl; exact (show (0 : UInt8).toNat < 128 by decide); exact (show (47 : UInt8).toNat < 128 by decide))
        have hne : (((no2[i]'hi).toNat : Int) == 65533) = false := beq_eq_false_iff_ne.2 (by have := (no2[i]'hi).toNat_lt; omega)
        generalize (no2[i]'hi).toNat = x at hnx hne
        go_wp2
        go_roundg g
        case measure => omega
        case rel => exact ⟨i + 1, by omega, rfl⟩
  · have i3 : (r == 65533) = false := beq_eq_false_iff_ne.2 hE
    clear hE
    by_cases hv : (0 ≤ r ∧ r < 55296) ∨ (57343 < r ∧ r ≤ 1114111)
    · have hval : Utf8.valid r = true := by rw [validRune_eq]; exact decide_eq_true hv
      obtain ⟨e1, e2, e3⟩ := encode_facts r hval h1
      have HV := validRune_yes r hv
      clear hv hval
      go_enter Tryz.func132, Tryz.ntmps132
      go_wp2_with (first | (go_at_call 166; refine (HV _).mono ?_; rintro e w' ⟨rfl, rfl⟩))
      have hr := run_convert_int_string (P := Tryz.prog) w' 21 9 .i32 r (by kernel_rfl) Tryz.underlying9
      generalize Utf8.encode r = t at e1 e2 e3 hr
      go_step3
      go_wp2_with fail
      go_loopw [9] (fun v9 wr => v9 = .int .i64 ((t.size : Int) - 1) ∧ Below w'.heap.size w' wr) (fun _ _ => 0)
      case atStart => exact ⟨by first | rfl | simp, Below.refl _ _⟩
      case round =>
        obtain ⟨rfl, hb⟩ := hrel
        by_cases h2s : t.size = 2
        · have HB : Hid (Below w'.heap.size w' wr) := hb
          have hc := e3 (by omega)
          have hx : t.size - 1 = 1 := by omega
          have h1t : 1 < t.size := by omega
          have hc2 : 128 ≤ (t[1]'h1t).toNat := by simpa [h2s] using hc
          clear hc e3 hb hr e1 e2
          generalize hcc : t[1]'h1t = c at hc2
          have hne : (((no2[1]'(by decide)).toNat : Int) != (c.toNat : Int)) = true := by
            rw [show no2[1]'(by decide) = 47 from rfl, bne_iff_ne]
            show (47 : Int) ≠ _
            omega
          rw [show ((t.size : Int) - 1) = 1 from by omega]
          have hIB : ∀ w : World, Calls Tryz.prog 165 #[.string ByteArray.empty, .int .u8 (c.toNat : Int)] w fun e w' => e = .returned (.int .i64 (-1)) ∧ w' = w := indexByte_none c
          have hw2 : IntKind.i64.wrap 2 = 2 := by decide
          have hxx : no2.extract 2 2 = ⟨#[]⟩ := by decide
          have hzz : no2.size = 2 := rfl
          go_wp2_with fail
          go_step3
          go_wp2_with fail
          go_quiet (fail)
          have HB5 : Hid (Below w'.heap.size w' (wr.drewN nq)) := bdrewN HB.out _
          generalize wr.drewN nq = w5 at HB5 ⊢
          go_wp2_with fail
          go_quiet (first | (go_at_call 165; refine Calls.quiet_of_same (hIB _)))
          go_wp2_with fail
          rw [Exit.noGoto_ret]
          simp only [Exit.inBlock, Exit.then]
          show Exit.noGoto (Exit.inBlock 0 _) Exit.ret _ _
          rw [Exit.noGoto_ret]
          simp only [Exit.inBlock, Exit.then]
          rw [Exit.noGoto_ret]
          try simp only [Exit.inBlock, Exit.then]
          go_ret
          exact ⟨rfl, bdrewN HB5.out _⟩
        · have h3 : ¬ ((t.size : Int) - 1 < 2) := by omega
          have HB : Hid (Below w'.heap.size w' wr) := hb
          clear hb
          go_wp2_with fail
          go_ret
          exact ⟨rfl, HB.out⟩
    · have v1 : ¬ (r < 55296) := by omega
      by_cases v2 : 57343 < r
      · have v3 : ¬ (r ≤ 1114111) := by omega
        clear hv
        go_enter Tryz.func132, Tryz.ntmps132
        go_wp2_with (first | (go_at_call 166; go_in))
        go_ret
        exact ⟨rfl, Below.refl _ _⟩
      · clear hv
        go_enter Tryz.func132, Tryz.ntmps132
        go_wp2_with (first | (go_at_call 166; go_in))
        go_ret
        exact ⟨rfl, Below.refl _ _⟩
end Go.Proofs.YtimjggkdpmgpjaaGreatDoor

namespace Go.Proofs.YtimjggkdpmgpjaaGreatDoor
set_option maxRecDepth 20000
open Go Go.RowKit Go.Lib
set_option linter.unusedVariables false
set_option linter.unusedSimpArgs false
/-- a byte 0 or a slash among the first i -/
def Cln (l : List UInt8) (i : Nat) : Prop := ∀ j b, j < i → l[j]? = some b → b ≠ 0 ∧ b ≠ 47
def has2 (l : List UInt8) : Bool := l.any fun b => b == 0 || b == 47
theorem has2_no {l : List UInt8} (h : Cln l l.length) : has2 l = false := by
  unfold has2
  rw [List.any_eq_false]
  intro b hb
  obtain ⟨j, hj, rfl⟩ := List.getElem_of_mem hb
  have := h j _ hj (List.getElem?_eq_getElem hj)
  simp [this.1, this.2]
theorem has2_yes {l : List UInt8} {i : Nat} {b : UInt8} (h : l[i]? = some b) (hb : b = 0 ∨ b = 47) : has2 l = true := by
  unfold has2
  rw [List.any_eq_true]
  exact ⟨b, List.mem_of_getElem? h, by simpa using hb⟩
theorem Cln.one {l : List UInt8} {i : Nat} {b : UInt8} (H : Cln l i) (h : l[i]? = some b) (h1 : b ≠ 0) (h2 : b ≠ 47) : Cln l (i + 1) := by
  intro j c hj hc
  by_cases e : j = i
  · subst e; rw [h] at hc; cases hc; exact ⟨h1, h2⟩
  · exact H j c (by omega) hc
theorem Cln.more {l : List UInt8} {i d : Nat} (H : Cln l i) (h : ∀ j b, i ≤ j → j < i + d → l[j]? = some b → 128 ≤ b.toNat) : Cln l (i + d) := by
  intro j c hj hc
  by_cases e : j < i
  · exact H j c e hc
  · have := h j c (by omega) hj hc
    constructor
    · rintro rfl; revert this; decide
    · rintro rfl; revert this; decide
theorem get_byte (s : ByteArray) (j : Nat) {b : UInt8} (h : s.data.toList[j]? = some b) : s.get! j = b := by
  have hl := (List.getElem?_eq_some_iff.1 h).1
  have h2 := (List.getElem?_eq_some_iff.1 h).2
  have hj : j < s.size := by rw [Lib.size_eq]; exact hl
  have : s.get! j = s[j]'hj := by simp [ByteArray.get!, getElem!_pos, hj]; rfl
  rw [this, ← h2]
  simp
  rfl
theorem iterPos_at {w : World} {k : Nat} {s : ByteArray} {i : Nat} (h : w.heap[k]? = some (.stringIter s i)) : w.iterPos k = i := by
  simp [World.iterPos, h]
/-- what one sign of a text takes is all beyond ASCII, where its first byte is -/
theorem decode_bytes (s : ByteArray) (i : Nat) (hi : i < s.size) (h0 : 128 ≤ (s[i]'hi).toNat) : ∀ j b, i ≤ j → j < i + (Utf8.decode s i).2 → s.data.toList[j]? = some b → 128 ≤ b.toNat := by
  intro j b h1 h2 hb
  by_cases e : j = i
  · subst e
    have := Lib.data_getElem? s j hi
    rw [hb] at this
    cases this
    exact h0
  · have hg := get_byte s j hb
    obtain ⟨k, rfl⟩ : ∃ k, j = i + k := ⟨j - i, by omega⟩
    rw [← hg]
    clear hg hb h1
    have hn : ¬ (s[i]'hi).toNat < 128 := by omega
    simp only [Utf8.decode, get_at s i hi, hn, if_false] at h2
    have hk : k ≠ 0 := by omega
    clear e h0
    repeat' split at h2
    all_goals simp only [Bool.and_eq_true, decide_eq_true_eq, beq_iff_eq] at *
    all_goals try omega
    all_goals have hk3 : k = 1 ∨ k = 2 ∨ k = 3 := by omega
    all_goals rcases hk3 with rfl | rfl | rfl <;> omega
theorem valid_le (s : ByteArray) (i : Nat) (hi : i < s.size) : i + (Utf8.decode s i).2 ≤ s.size := by
  simp only [Utf8.decode, get_at s i hi]
  repeat' split
  all_goals simp only [Bool.and_eq_true, decide_eq_true_eq, beq_iff_eq] at *
  all_goals omega
theorem no2_has (x : UInt8) : (0 ≤ Lib.indexByte no2.data.toList x) ↔ (x = 0 ∨ x = 47) := by
  have := Lib.contains_iff_indexByte no2.data.toList x
  constructor
  · intro h
    rw [decide_eq_true h] at this
    simpa using this
  · intro h
    have h2 : no2.data.toList.contains x = true := by simpa using h
    rw [h2] at this
    exact of_decide_eq_true this.symm
theorem indexRune_low (r : Int) (h0 : 0 ≤ r) (h1 : r < 128) (w : World) :
    Calls Tryz.prog 132 #[.string no2, .int .i32 r] w fun e w' => e = .returned (.int .i64 (Lib.indexByte no2.data.toList r.toNat.toUInt8)) ∧ w' = w :=
  Any.strings_IndexRune_ascii Tryz.indexRuneA no2 r w h0 h1
set_option maxHeartbeats 4000000 in
theorem indexAny_short (s : ByteArray) (h8 : s.size ≤ 8) (w : World) :
    Calls Tryz.prog 119 #[.string s, .string no2] w fun e w' => (∃ x : Int, e = .returned (.int .i64 x) ∧ decide (0 ≤ x) = has2 s.data.toList) ∧ Below w.heap.size w w' := by
  have HSL : Hid (s.size = s.data.toList.length) := Lib.size_eq s
  have h8z : ¬ ((8 : Int) < (s.size : Int)) := by omega
  go_enter Tryz.func119, Tryz.ntmps119
  go_wp2_with (first | (go_at_call 133; go_in))
  have hw0 : Hid ((w.iter s 0).heap[w.heap.size]? = some (.stringIter s 0) ∧ Below w.heap.size w (w.iter s 0)) := ⟨World.iter_heap w s 0, (Below.refl _ _).alloc (Nat.le_refl _) _⟩
  go_loopw [9] (fun _ wr => Hid (∃ i : Nat, i ≤ s.size ∧ wr.heap[w.heap.size]? = some (.stringIter s i) ∧ Below w.heap.size w wr ∧ Cln s.data.toList i)) (fun _ wr => s.size - wr.iterPos w.heap.size)
  case atStart => exact ⟨0, by omega, hw0.out.1, hw0.out.2, fun j b hj => by omega⟩
  case round =>
    obtain ⟨i, hin, hit, hb, hcl⟩ := Hid.out hrel
    clear hrel hw0
    have HB : Hid (Below w.heap.size w wr ∧ Cln s.data.toList i ∧ wr.heap[w.heap.size]? = some (.stringIter s i)) := ⟨hb, hcl, hit⟩
    clear hb hcl
    by_cases hi : i < s.size
    · have hnx := fun ty => run_next_any_at (P := Tryz.prog) wr w.heap.size s i ty hit hi
      have hxl := Lib.data_getElem? s i hi
      by_cases ha : (s[i]'hi).toNat < 128
      · have hd := decode_ascii s i hi ha
        rw [hd] at hnx
        generalize s[i]'hi = x at hxl ha hnx hd
        have HX : Hid (s.data.toList[i]? = some x) := hxl
        have hlow := indexRune_low (x.toNat : Int) (by omega) (by omega)
        have hback : ((x.toNat : Int)).toNat.toUInt8 = x := by simp
        rw [hback] at hlow
        have HK : Hid (0 ≤ Lib.indexByte no2.data.toList x ↔ (x = 0 ∨ x = 47)) := no2_has x
        generalize Lib.indexByte no2.data.toList x = y at hlow HK
        clear hxl hd hback hit
        by_cases hy : 0 ≤ y
        · go_wp2_with (first | (go_at_call 132; refine (hlow _).mono ?_; rintro e w' ⟨rfl, rfl⟩))
          go_ret
          exact ⟨⟨_, rfl, by rw [has2_yes HX.out (HK.out.1 hy)]; exact decide_eq_true (by omega)⟩, below_iterAt HB.out.1 (Nat.le_refl _) _ _⟩
        · have HI : Hid ((wr.iterAt w.heap.size s (i + 1)).heap[w.heap.size]? = some (.stringIter s (i + 1))) := iterAt_heap wr w.heap.size s i (i + 1) HB.out.2.2
          go_wp2_with (first | (go_at_call 132; refine (hlow _).mono ?_; rintro e w' ⟨rfl, rfl⟩))
          go_roundw
          case rel => exact ⟨i + 1, by omega, HI.out, below_iterAt HB.out.1 (Nat.le_refl _) _ _, HB.out.2.1.one HX.out (fun h => absurd (HK.out.2 (Or.inl h)) (by omega)) (fun h => absurd (HK.out.2 (Or.inr h)) (by omega))⟩
          case measure => rw [iterPos_at HI.out, iterPos_at HB.out.2.2]; omega
      · have hd := decode_high s i hi (by omega)
        have hle := decode_le s i
        have HV : Hid (i + (Utf8.decode s i).2 ≤ s.size ∧ Cln s.data.toList (i + (Utf8.decode s i).2)) := ⟨valid_le s i hi, HB.out.2.1.more (decode_bytes s i hi (by omega))⟩
        generalize Utf8.decode s i = rd at hd hle HV hnx
        obtain ⟨r, d⟩ := rd
        simp only at hd hle HV hnx
        have HI : Hid ((wr.iterAt w.heap.size s (i + d)).heap[w.heap.size]? = some (.stringIter s (i + d))) := iterAt_heap wr w.heap.size s i (i + d) HB.out.2.2
        have hhi := indexRune_high (r : Int) (by omega) (by omega)
        have HD : Hid (1 ≤ d) := hd.2
        clear hd hle hxl ha hit
        go_wp2_with fail
        refine (hhi _).mono ?_
        intro e w2 hw2
        obtain ⟨he2, hw2⟩ := hw2
        subst he2
        have HB2 : Hid (w2.heap[w.heap.size]? = some (.stringIter s (i + d)) ∧ Below w.heap.size w w2) := by
          have hs2 : w.heap.size < (wr.iterAt w.heap.size s (i + d)).heap.size := (Array.getElem?_eq_some_iff.1 HI.out).1
          have hb3 : Below w.heap.size w (wr.iterAt w.heap.size s (i + d)) := below_iterAt HB.out.1 (Nat.le_refl _) _ _
          exact ⟨(hw2.block _ hs2).trans HI.out, hb3.trans (hw2.mono (by omega))⟩
        have HP : Hid (wr.iterPos w.heap.size = i) := iterPos_at HB.out.2.2
        clear hw2 HI
        go_wp2_with fail
        go_roundw
        case rel => exact ⟨i + d, HV.out.1, HB2.out.1, HB2.out.2, HV.out.2⟩
        case measure => rw [iterPos_at HB2.out.1, HP.out]; have := HD.out; omega
    · obtain rfl : i = s.size := by omega
      have hnx := fun ty => run_next_end_at (P := Tryz.prog) wr w.heap.size s s.size ty hit hi
      go_wp2_with fail
      go_ret
      exact ⟨⟨-1, rfl, by rw [has2_no (by rw [← HSL.out]; exact HB.out.2.1)]; rfl⟩, HB.out.1⟩
theorem has2_index : ∀ l : List UInt8, decide (0 ≤ Lib.indexAny l no2.data.toList) = has2 l
  | [] => rfl
  | b :: l => by
    have ih := has2_index l
    have h1 := Lib.indexAny_ge no2.data.toList l
    unfold Lib.indexAny has2
    by_cases hb : no2.data.toList.contains b = true
    · rw [if_pos hb]
      have : b = 0 ∨ b = 47 := by simpa using hb
      simp [this]
    · rw [if_neg hb]
      have hn : ¬ (b = 0 ∨ b = 47) := by simpa using hb
      have e : (b == 0 || b == 47) = false := by simpa using hn
      rw [List.any_cons, e, Bool.false_or]
      show _ = has2 l
      rw [← ih]
      by_cases hm : Lib.indexAny l no2.data.toList = -1
      · simp [hm]
      · have : (Lib.indexAny l no2.data.toList == -1) = false := by simpa using hm
        rw [if_neg (by rw [this]; decide), decide_eq_decide]
        constructor
        · intro h; omega
        · intro h; omega
theorem indexAny_any (s : ByteArray) (hs : s.size < 4294967281) (w : World) :
    Calls Tryz.prog 119 #[.string s, .string no2] w fun e w' => (∃ x : Int, e = .returned (.int .i64 x) ∧ decide (0 ≤ x) = has2 s.data.toList) ∧ Below w.heap.size w w' := by
  by_cases h8 : s.size ≤ 8
  · exact indexAny_short s h8 w
  · have hz := zero_of_info (P := Tryz.prog) (show (Tryz.prog.info? (Tryz.indexAnyA_ren.t 116)).map (fun i => (i.zero, i.size)) = some (some (.agg (Array.replicate 256 (.bool false))), 256) from by kernel_rfl)
    have h : Calls Tryz.prog 119 #[.string s, .string no2] w _ := Any.strings_IndexAny_long Tryz.indexAnyA hz.1 hz.2 s no2 w (by decide) (by omega) hs (by decide)
      (fun j b hb => by
        have : b ∈ no2.data.toList := List.mem_of_getElem? hb
        have h2 : b = 0 ∨ b = 47 := by simpa using this
        rcases h2 with rfl | rfl <;> decide)
    refine h.mono fun e w' ⟨h1, h2⟩ => ⟨⟨_, h1, has2_index _⟩, ?_⟩
    rw [h2]
    exact ((Below.refl _ _).alloc (Nat.le_refl _) _).alloc (by simp) _
theorem containsAny_any (s : ByteArray) (hs : s.size < 4294967281) (w : World) :
    Calls Tryz.prog 98 #[.string s, .string no2] w fun e w' => e = .returned (.bool (has2 s.data.toList)) ∧ Below w.heap.size w w' := by
  have HI : Hid (∀ w : World, Calls Tryz.prog 119 #[.string s, .string no2] w fun e w' => (∃ x : Int, e = .returned (.int .i64 x) ∧ decide (0 ≤ x) = has2 s.data.toList) ∧ Below w.heap.size w w') := indexAny_any s hs
  go_enter Tryz.func98, Tryz.ntmps98
  go_wp2_with fail
  refine (HI.out _).mono ?_
  intro e w2 hw2
  obtain ⟨⟨x, rfl, hx⟩, hb⟩ := hw2
  have HX : Hid (decide (0 ≤ x) = has2 s.data.toList) := hx
  have HB : Hid (Below w.heap.size w w2) := hb
  clear hx hb
  go_wp2_with fail
  go_ret
  exact ⟨by rw [← HX.out]; rfl, HB.out⟩
end Go.Proofs.YtimjggkdpmgpjaaGreatDoor

namespace Go.Proofs.YtimjggkdpmgpjaaGreatDoor
set_option maxRecDepth 20000
open Go Go.RowKit
set_option linter.unusedVariables false
set_option linter.unusedSimpArgs false
/-- whether a text is a name -/
def isName (l : List UInt8) : Bool := !(l == []) && !(l == [46]) && !(l == [46, 46]) && !decide (56 < l.length) && !has2 l
/-- what Check answers -/
def nameE (l : List UInt8) : Int := if isName l = true then 0 else 130
theorem ubeq_ne {a b : UInt8} (h : a ≠ b) : ((a.toNat : Int) == (b.toNat : Int)) = false := by
  rw [beq_eq_false_iff_ne]
  intro e
  exact h (UInt8.toNat_inj.1 (by exact_mod_cast e))
theorem isName_bad {l : List UInt8} (h : l = [] ∨ l = [46] ∨ l = [46, 46] ∨ 56 < l.length ∨ has2 l = true) : isName l = false := by
  unfold isName
  rcases h with h | h | h | h | h <;> simp [h]
theorem isName_good {l : List UInt8} (h0 : l ≠ []) (h1 : l ≠ [46]) (h2 : l ≠ [46, 46]) (h3 : ¬ 56 < l.length) (h4 : has2 l = false) : isName l = true := by
  unfold isName
  have : l.length ≤ 56 := by omega
  simp [h0, h1, h2, h4, this]
theorem nameE_bad {l : List UInt8} (h : l = [] ∨ l = [46] ∨ l = [46, 46] ∨ 56 < l.length ∨ has2 l = true) : nameE l = 130 := by
  unfold nameE isName
  rcases h with h | h | h | h | h <;> simp [h]
theorem nameE_good {l : List UInt8} (h0 : l ≠ []) (h1 : l ≠ [46]) (h2 : l ≠ [46, 46]) (h3 : ¬ 56 < l.length) (h4 : has2 l = false) : nameE l = 0 := by
  unfold nameE isName
  have : l.length ≤ 56 := by omega
  simp [h0, h1, h2, h4, this]
set_option maxHeartbeats 4000000 in
theorem qcheck_any (s : ByteArray) (w : World) :
    Calls Tryz.prog 62 #[.string s] w fun e w' => e = .returned (.int .i64 (nameE s.data.toList)) ∧ Below w.heap.size w w' := by
  have HTL : Hid (s.toList = s.data.toList) := Lib.toList_data s
  have HSL : Hid (s.size = s.data.toList.length) := Lib.size_eq s
  have HC : Hid (s.size < 4294967281 → ∀ w : World, Calls Tryz.prog 98 #[.string s, .string ⟨#[0, 47]⟩] w fun e w' => e = .returned (.bool (has2 s.data.toList)) ∧ Below w.heap.size w w') := fun h w => containsAny_any s h w
  go_enter Tryz.func62, Tryz.ntmps62
  go_wp2_with fail
  · rename_i h
    rw [HTL.out] at h
    go_ret
    exact ⟨by rw [nameE_bad (Or.inl h)]; rfl, Below.refl _ _⟩
  · rename_i _ h
    rw [HTL.out] at h
    go_ret
    exact ⟨by rw [nameE_bad (Or.inr (Or.inl h))]; rfl, Below.refl _ _⟩
  · have h0 := ‹¬ s.toList = []›
    have h1 := ‹¬ s.toList = [46]›
    have h := ‹(s.toList.isEmpty = true ∨ (s.toList == [46]) = true) ∨ (s.toList == [46, 46]) = true›
    rw [HTL.out] at h0 h1 h
    have h2 : s.data.toList = [46, 46] := by
      rcases h with (h | h) | h
      · exact absurd (by simpa using h) h0
      · exact absurd (by simpa using h) h1
      · simpa using h
    go_ret
    exact ⟨by rw [nameE_bad (Or.inr (Or.inr (Or.inl h2)))]; rfl, Below.refl _ _⟩
  · have h0 := ‹¬ s.toList = []›
    have h1 := ‹¬ s.toList = [46]›
    have h := ‹(s.toList.isEmpty = false ∧ (s.toList == [46]) = false) ∧ (s.toList == [46, 46]) = false›
    have h3 := ‹(s.size : Int) ≤ 56›
    rw [HTL.out] at h0 h1 h
    have h2 : Hid (s.data.toList ≠ [46, 46] ∧ s.data.toList ≠ [] ∧ s.data.toList ≠ [46] ∧ ¬ 56 < s.data.toList.length) :=
      ⟨by have := h.2; intro e; rw [e] at this; revert this; decide, h0, h1, by rw [← HSL.out]; omega⟩
    clear h h0 h1
    refine (HC.out (by omega) _).mono ?_
    intro e w2 hw2
    obtain ⟨he2, hw2⟩ := hw2
    subst he2
    have HB : Hid (Below w.heap.size w w2) := hw2
    clear hw2
    cases h5 : has2 s.data.toList
    · have HN := nameE_good h2.out.2.1 h2.out.2.2.1 h2.out.1 h2.out.2.2.2 h5
      go_wp2_with fail
      go_ret
      exact ⟨by rw [HN]; rfl, HB.out⟩
    · go_wp2_with fail
      go_ret
      exact ⟨by rw [nameE_bad (Or.inr (Or.inr (Or.inr (Or.inr h5))))]; rfl, HB.out⟩
  · have h := ‹56 < (s.size : Int)›
    go_ret
    exact ⟨by rw [nameE_bad (Or.inr (Or.inr (Or.inr (Or.inl (by rw [← HSL.out]; omega)))))]; rfl, Below.refl _ _⟩
theorem isName_len {l : List UInt8} (h : isName l = true) : 1 ≤ l.length ∧ l.length ≤ 56 := by
  unfold isName at h
  simp only [Bool.and_eq_true, Bool.not_eq_true', decide_eq_false_iff_not] at h
  have h0 : l ≠ [] := by intro e; rw [e] at h; revert h; simp
  have := List.length_pos_iff.2 h0
  omega
set_option maxHeartbeats 4000000 in
theorem is_any (s : ByteArray) (w : World) :
    Calls Tryz.prog 16 #[.string s] w fun e w' => e = .returned (.bool (isName s.data.toList)) ∧ w' = w := by
  have HTL : Hid (s.toList = s.data.toList) := Lib.toList_data s
  have HSL : Hid (s.size = s.data.toList.length) := Lib.size_eq s
  generalize hm : isName s.data.toList = m
  have HM : Hid (isName s.data.toList = m) := hm
  clear hm
  go_enter Tryz.func16, Tryz.ntmps16
  go_wp2_with fail
  · have h := ‹s.toList = [46]›
    rw [HTL.out] at h
    obtain rfl : m = false := HM.out ▸ isName_bad (Or.inr (Or.inl h))
    go_ret
    exact ⟨rfl, rfl⟩
  · have h := ‹(((s.size : Int) < 1 ∨ 56 < (s.size : Int)) ∨ (s.toList == [46]) = true) ∨ (s.toList == [46, 46]) = true›
    have h1 := ‹¬ s.toList = [46]›
    rw [HTL.out] at h h1
    have h2 : s.data.toList = [46, 46] := by
      rcases h with (h | h) | h
      · omega
      · exact absurd (by simpa using h) h1
      · simpa using h
    obtain rfl : m = false := HM.out ▸ isName_bad (Or.inr (Or.inr (Or.inl h2)))
    go_ret
    exact ⟨rfl, rfl⟩
  · have h := ‹((1 ≤ (s.size : Int) ∧ (s.size : Int) ≤ 56) ∧ (s.toList == [46]) = false) ∧ (s.toList == [46, 46]) = false›
    rw [HTL.out] at h
    have HG : Hid (s.data.toList ≠ [] ∧ s.data.toList ≠ [46] ∧ s.data.toList ≠ [46, 46] ∧ ¬ 56 < s.data.toList.length) := by
      refine ⟨?_, ?_, ?_, ?_⟩
      · intro e; have h7 : s.size = 0 := by rw [HSL.out, e]; rfl
        omega
      · intro e; have := h.1.2; rw [e] at this; revert this; decide
      · intro e; have := h.2; rw [e] at this; revert this; decide
      · rw [← HSL.out]; omega
    have h56 : s.size ≤ 56 := by omega
    clear h
    go_loop [3] (fun v => Hid (∃ i : Nat, i ≤ s.size ∧ v = .int .i64 (i : Int) ∧ Cln s.data.toList i)) (fun v => s.size - (intOf v).toNat)
    case atStart => exact ⟨0, by omega, rfl, fun j b hj => by omega⟩
    case round =>
      obtain ⟨i, hin, rfl, hcl⟩ := Hid.out hrel
      have HCL : Hid (Cln s.data.toList i) := hcl
      clear hrel hcl
      by_cases hi : i < s.size
      · have hiz : (i : Int) < (s.size : Int) := by omega
        have hxl := Lib.data_getElem? s i hi
        obtain ⟨x, hx⟩ : ∃ x : UInt8, s[i]'hi = x := ⟨_, rfl⟩
        rw [hx] at hxl
        have HX : Hid (s.data.toList[i]? = some x) := hxl
        clear hxl
        by_cases x0 : x = 0
        · have b0 : ((x.toNat : Int) == 0) = true := by rw [x0]; rfl
          obtain rfl : m = false := HM.out ▸ isName_bad (Or.inr (Or.inr (Or.inr (Or.inr (has2_yes HX.out (Or.inl x0))))))
          clear x0
          go_wp2_with fail
          go_ret
          exact ⟨rfl, rfl⟩
        · have b0 : ((x.toNat : Int) == 0) = false := ubeq_ne x0
          by_cases x1 : x = 47
          · have b1 : ((x.toNat : Int) == 47) = true := by rw [x1]; rfl
            obtain rfl : m = false := HM.out ▸ isName_bad (Or.inr (Or.inr (Or.inr (Or.inr (has2_yes HX.out (Or.inr x1))))))
            clear x1 x0
            go_wp2_with fail
            go_ret
            exact ⟨rfl, rfl⟩
          · have b1 : ((x.toNat : Int) == 47) = false := ubeq_ne x1
            have HN : Hid (Cln s.data.toList (i + 1)) := HCL.out.one HX.out x0 x1
            clear x0 x1
            go_wp2_with fail
            go_round
            case rel => exact ⟨i + 1, by omega, by first | rfl | go_num | simp, HN.out⟩
            case measure => simp [intOf]; omega
      · obtain rfl : i = s.size := by omega
        have hiz : ¬ ((s.size : Int) < (s.size : Int)) := by omega
        obtain rfl : m = true := HM.out ▸ isName_good HG.out.1 HG.out.2.1 HG.out.2.2.1 HG.out.2.2.2 (has2_no (by rw [← HSL.out]; exact HCL.out))
        go_wp2_with fail
        go_ret
        exact ⟨rfl, rfl⟩
  · have h := ‹56 < (s.size : Int)›
    obtain rfl : m = false := HM.out ▸ isName_bad (Or.inr (Or.inr (Or.inr (Or.inl (by rw [← HSL.out]; omega)))))
    go_ret
    exact ⟨rfl, rfl⟩
  · have h := ‹(s.size : Int) < 1›
    obtain rfl : m = false := HM.out ▸ isName_bad (Or.inl (List.length_eq_zero_iff.1 (by rw [← HSL.out]; omega)))
    go_ret
    exact ⟨rfl, rfl⟩
end Go.Proofs.YtimjggkdpmgpjaaGreatDoor

namespace Go.Proofs.YtimjggkdpmgpjaaGreatDoor
open Go

section
variable {P : Program} {ops : Array Oper} {Q : Exit → Act → World → Prop} {md : Region.Mode}

/-- only the plain way out -/
def Strict (Q : Exit → Act → World → Prop) : Exit → Act → World → Prop := fun e a w => e = .normal ∧ Q .normal a w
theorem Strict.imp (e : Exit) (a : Act) (w : World) (h : Strict Q e a w) : Q e a w := by
  obtain ⟨rfl, h⟩ := h; exact h
theorem Strict.noOut : ¬ LetsOut (Strict Q) := by
  rintro ⟨a, w, h, _⟩; cases h

/-- what is run leaves the world, and would do the same in any world -/
def Pur {α : Type} (P : Program) (s : Sem α) : Prop := ∀ w n w', s.run P w = .ok n w' → w' = w ∧ ∀ w2, s.run P w2 = .ok n w2
/-- what is run leaves the world -/
def Rds {α : Type} (P : Program) (s : Sem α) : Prop := ∀ w n w', s.run P w = .ok n w' → w' = w
/-- what is run never ends well -/
def Nev {α : Type} (P : Program) (s : Sem α) : Prop := ∀ w n w', s.run P w ≠ .ok n w'

theorem Pur.rds {α : Type} {s : Sem α} (h : Pur P s) : Rds P s := fun w n w' e => (h w n w' e).1
theorem Nev.pur {α : Type} {s : Sem α} (h : Nev P s) : Pur P s := fun w n w' e => absurd e (h w n w')
theorem pur_pure {α : Type} (x : α) : Pur P (pure x : Sem α) := fun w n w' e => by
  rw [Sem.run_pure] at e; cases e; exact ⟨rfl, fun w2 => by rw [Sem.run_pure]⟩
theorem pur_halt {α : Type} (h : Halt) : Pur P (Sem.halt h : Sem α) := fun w n w' e => by simp [Sem.run] at e
theorem Pur.bind {α β : Type} {s : Sem α} {f : α → Sem β} (h : Pur P s) (hf : ∀ x, Pur P (f x)) : Pur P (s >>= f) := fun w n w' e => by
  rw [Sem.run_bind] at e
  cases hs : s.run P w with
  | ok x w1 =>
    rw [hs] at e
    obtain ⟨rfl, h2⟩ := h w x w1 hs
    simp only [Result.andThen_ok] at e
    obtain ⟨rfl, h3⟩ := hf x _ _ _ e
    exact ⟨rfl, fun w2 => by rw [Sem.run_bind, h2 w2]; simp only [Result.andThen_ok]; exact h3 w2⟩
  | halt x w1 => rw [hs] at e; simp [Result.andThen] at e
theorem Rds.bind {α β : Type} {s : Sem α} {f : α → Sem β} (h : Rds P s) (hf : ∀ x, Rds P (f x)) : Rds P (s >>= f) := fun w n w' e => by
  rw [Sem.run_bind] at e
  cases hs : s.run P w with
  | ok x w1 =>
    rw [hs] at e
    have h2 := h w x w1 hs
    subst h2
    simp only [Result.andThen_ok] at e
    exact hf x _ _ _ e
  | halt x w1 => rw [hs] at e; simp [Result.andThen] at e
theorem Nev.bind {α β : Type} {s : Sem α} {f : α → Sem β} (hf : ∀ x, Nev P (f x)) : Nev P (s >>= f) := fun w n w' e => by
  rw [Sem.run_bind] at e
  cases hs : s.run P w with
  | ok x w1 => rw [hs] at e; simp only [Result.andThen_ok] at e; exact hf x _ _ _ e
  | halt x w1 => rw [hs] at e; simp [Result.andThen] at e
theorem pur_program : Pur P program := fun w n w' e => by
  simp only [program, Sem.run] at e; cases e; exact ⟨rfl, fun w2 => by simp only [program, Sem.run]⟩
theorem nev_bounds {α : Type} (k : IntKind) (x y : Int) (c : BoundsCode) : Nev P (boundsPanic k x y c : Sem α) := by
  have J : ∀ s : Bool, Nev P (runtimePanic (.bounds (IntKind.i64.wrap x) y s c) : Sem α) := fun s => by
    unfold runtimePanic
    refine Nev.bind fun p => ?_
    intro w n w' e
    simp [goPanic] at e
  unfold boundsPanic
  dsimp only
  split <;> exact Nev.bind fun s => J s
theorem pur_underlying (t : TypeId) : Pur P (underlying t) := by
  unfold underlying
  refine pur_program.bind fun p => ?_
  cases p.underlying t with
  | none => exact pur_halt _
  | some d => exact pur_pure d
theorem pur_sizeOf (t : TypeId) : Pur P (sizeOf t) := by
  unfold sizeOf typeInfo
  refine Pur.bind (pur_program.bind fun p => ?_) fun i => pur_pure _
  cases p.info? t with
  | none => exact pur_halt _
  | some d => exact pur_pure d
theorem pur_sure (v : Value) : Pur P (Instr.sureAddr v) := by
  unfold Instr.sureAddr
  split
  · exact pur_pure _
  · exact pur_halt _
theorem pur_index (t : TypeId) (x i : Value) : Pur P (Instr.indexAt t x i) := by
  unfold Instr.indexAt
  refine Pur.bind ?_ fun ki => ?_
  · unfold asIntOf; split
    · exact pur_pure _
    · exact pur_halt _
    · exact pur_halt _
  · refine (pur_underlying t).bind fun d => ?_
    dsimp only
    split
    · refine (pur_sure _).bind fun _ => (pur_pure _).bind fun q => ?_
      refine (pur_underlying t).bind fun d2 => ?_
      split
      · split
        · exact (pur_sizeOf _).bind fun _ => pur_pure _
        · split <;> split <;> first | exact pur_halt _ | exact (nev_bounds _ _ _ _).pur
      · exact (nev_bounds _ _ _ _).pur
    · refine (pur_pure _).bind fun q => ?_
      refine (pur_underlying t).bind fun d2 => ?_
      split
      · split
        · exact (pur_sizeOf _).bind fun _ => pur_pure _
        · split <;> split <;> first | exact pur_halt _ | exact (nev_bounds _ _ _ _).pur
      · exact (nev_bounds _ _ _ _).pur
    · refine (pur_halt _).bind fun q => ?_
      refine (pur_underlying t).bind fun d2 => ?_
      split
      · split
        · exact (pur_sizeOf _).bind fun _ => pur_pure _
        · split <;> split <;> first | exact pur_halt _ | exact (nev_bounds _ _ _ _).pur
      · exact (nev_bounds _ _ _ _).pur
theorem pur_extract (v : Value) (i : Nat) : Pur P (Instr.extract v i) := by
  unfold Instr.extract
  split
  · split
    · exact pur_pure _
    · exact pur_halt _
  · exact pur_halt _
theorem rds_load (a : Addr) : Rds P (load a) := fun w n w' e => by
  simp only [load, Sem.run] at e
  split at e
  · cases e; rfl
  · split at e
    · cases e; rfl
    · cases e
theorem rds_cells (a : Addr) : ∀ (n i : Nat) (acc : Array Value), Rds P (loadCellsFrom a i n acc)
  | 0, _, acc => (pur_pure acc).rds
  | n + 1, i, acc => (rds_load _).bind fun v => rds_cells a n (i + 1) (acc.push v)
theorem rds_loadAt (t : TypeId) (v : Value) : Rds P (Instr.loadAt t v) := by
  unfold Instr.loadAt loadVar
  refine (pur_sure v).rds.bind fun a => Rds.bind ?_ fun b => ?_
  · unfold isAgg
    refine (pur_underlying t).rds.bind fun d => ?_
    split <;> exact (pur_pure _).rds
  · split
    · exact (pur_sizeOf t).rds.bind fun n => (rds_cells a n 0 #[]).bind fun c => (pur_pure _).rds
    · exact rds_load a

/-- an operation that yields its value in whatever world -/
def kindW (o : Oper) : Bool := match o.op with
  | .move _ => true
  | .extract .. => true
  | .indexAddr .. => true
  | _ => false
theorem kindW_run {o : Oper} (h : kindW o = true) (ρ : Operand → Value) : Pur P (execOp ρ o) ∧ ∀ w n w', (execOp ρ o).run P w = .ok n w' → ∃ v, n = .value v := by
  unfold kindW at h
  split at h <;> rename_i hop
  · unfold execOp; simp only [hop]
    exact ⟨pur_pure _, fun w n w' e => by rw [Sem.run_pure] at e; cases e; exact ⟨_, rfl⟩⟩
  · unfold execOp; simp only [hop]
    exact ⟨(pur_extract _ _).bind fun v => pur_pure _, fun w n w' e => by
      rw [Sem.run_bind] at e
      cases hs : (Instr.extract (ρ _) _).run P w with
      | ok x w1 => rw [hs] at e; simp only [Result.andThen_ok, Sem.run_pure] at e; cases e; exact ⟨_, rfl⟩
      | halt x w1 => rw [hs] at e; simp [Result.andThen] at e⟩
  · unfold execOp; simp only [hop]
    exact ⟨(pur_index _ _ _).bind fun v => pur_pure _, fun w n w' e => by
      rw [Sem.run_bind] at e
      cases hs : (Instr.indexAt _ (ρ _) (ρ _)).run P w with
      | ok x w1 => rw [hs] at e; simp only [Result.andThen_ok, Sem.run_pure] at e; cases e; exact ⟨_, rfl⟩
      | halt x w1 => rw [hs] at e; simp [Result.andThen] at e⟩
  · cases h

theorem strict_frame (d : Option Tmp) (v : Value) : ∀ c a w, Strict Q (.panic c) (a.put d v) w → Strict Q (.panic c) a w := fun c a w h => absurd h.1 (by intro e; cases e)

/-- which operations wait for number i, as far as the edges that go back tell -/
def waitArr (md : Region.Mode) (ops : Array Oper) (listed : Array Bool) (i : Nat) : Array Bool :=
  (List.range ops.size).foldl (fun wt j => wt.push (j == i || (!listed.getD j true && match ops[j]? with
    | some o => o.after.any fun e => Region.binds md e && wt.getD e.on false
    | none => false))) #[]
end
end Go.Proofs.YtimjggkdpmgpjaaGreatDoor
