/- The statement BlockParts, if what it calls returns what it does. -/
import Derived.Test.YtaoglljkghkbpaaBlkNumRef
import Derived.Test.YtaoglljkghkbpaaBlkDiff
import Derived.Handy
namespace Go.Proofs.Ytaoglljkghkbpaa
open Go.RowKit
set_option linter.unusedSimpArgs false
set_option linter.unusedVariables false

theorem lay_both (f : Nat → Nat) (a : Int) (ha : -9223372036854775808 ≤ a ∧ a ≤ 9223372036854775807) (s : ByteArray) (hs : s.size ≤ 9223372036854775807) : ∃ (F : Nat → Nat) (y : Int),
    (∀ w : World, Calls Try.prog 15 #[bkV f, .int .i64 a, .string s] w fun e w' => e = .returned (.tuple #[bkV F, .int .i64 y]) ∧ Below w.heap.size w w') ∧
    (∀ w : World, Calls Try.prog 16 #[bkV f, .int .i64 a, .string s] w fun e w' => e = .returned (.tuple #[bkV F, .int .i64 y]) ∧ Below w.heap.size w w') := by
  by_cases h : Fit a (s.size : Int)
  · obtain ⟨h1, h2, h3⟩ := h
    obtain ⟨r, rfl⟩ : ∃ r : Nat, a = (r : Int) := ⟨a.toNat, by omega⟩
    exact ⟨_, 0, lay_fit f r s (by omega), refLay_fit f r s (by omega)⟩
  · exact ⟨_, 40, lay_bad f a ha s hs h, refLay_bad f a ha s hs h⟩
theorem take_both (f : Nat → Nat) (a n : Int) (ha : -9223372036854775808 ≤ a ∧ a ≤ 9223372036854775807) (hn : -9223372036854775808 ≤ n ∧ n ≤ 9223372036854775807) : ∃ (T : ByteArray) (y : Int),
    (∀ w : World, Calls Try.prog 17 #[bkV f, .int .i64 a, .int .i64 n] w fun e w' => e = .returned (.tuple #[.string T, .int .i64 y]) ∧ Below w.heap.size w w') ∧
    (∀ w : World, Calls Try.prog 18 #[bkV f, .int .i64 a, .int .i64 n] w fun e w' => e = .returned (.tuple #[.string T, .int .i64 y]) ∧ Below w.heap.size w w') := by
  by_cases h : Fit a n
  · obtain ⟨h1, h2, h3⟩ := h
    obtain ⟨r, rfl⟩ : ∃ r : Nat, a = (r : Int) := ⟨a.toNat, by omega⟩
    obtain ⟨m, rfl⟩ : ∃ m : Nat, n = (m : Int) := ⟨n.toNat, by omega⟩
    exact ⟨_, 0, take_fit f r m (by omega), refTake_fit f r m (by omega)⟩
  · exact ⟨_, 40, take_bad f a n ha hn h, refTake_bad f a n ha hn h⟩
theorem take32_both (f : Nat → Nat) (hf : ∀ i, f i < 256) (a : Int) (ha : -9223372036854775808 ≤ a ∧ a ≤ 9223372036854775807) : ∃ (v : Nat) (T : ByteArray) (y : Int), v < 2 ^ 32 ∧
    (∀ w : World, Calls Try.prog 22 #[bkV f, .int .i64 a] w fun e w' => e = .returned (.tuple #[.int .u32 (v : Int), .int .i64 y]) ∧ Below w.heap.size w w') ∧
    (∀ w : World, Calls Try.prog 18 #[bkV f, .int .i64 a, .int .i64 4] w fun e w' => e = .returned (.tuple #[.string T, .int .i64 y]) ∧ Below w.heap.size w w') ∧
    (∀ w : World, Calls Try.prog 23 #[.string T] w fun e w' => e = .returned (.int .u64 (v : Int)) ∧ w' = w) := by
  by_cases h : Fit a 4
  · obtain ⟨h1, h2, h3⟩ := h
    obtain ⟨r, rfl⟩ : ∃ r : Nat, a = (r : Int) := ⟨a.toNat, by omega⟩
    refine ⟨le4f f r, _, 0, ?_, take32_fit f hf r (by omega), refTake_fit f r 4 (by omega), fun w => ?_⟩
    · rw [← horn4]
      exact hornN_lt f hf 4 r
    · have := refValue_any (strN (fun j => f (r + j)) 4) 4 (strN_size _ _) (by decide) w
      rw [hornN_congr (g' := f) 4 0 r (fun i hi => by rw [Nat.zero_add, strN_at (fun j => f (r + j)) _ _ hi (hf _)]), horn4] at this
      exact this
  · exact ⟨0, _, 40, by decide, take32_bad f a ha h, refTake_bad f a 4 ha (by omega) h, fun w => refValue_any (strN (fun _ => 0) 0) 0 (strN_size _ _) (by decide) w⟩
theorem take64_both (f : Nat → Nat) (hf : ∀ i, f i < 256) (a : Int) (ha : -9223372036854775808 ≤ a ∧ a ≤ 9223372036854775807) : ∃ (v : Nat) (T : ByteArray) (y : Int), v < 2 ^ 64 ∧
    (∀ w : World, Calls Try.prog 24 #[bkV f, .int .i64 a] w fun e w' => e = .returned (.tuple #[.int .u64 (v : Int), .int .i64 y]) ∧ Below w.heap.size w w') ∧
    (∀ w : World, Calls Try.prog 18 #[bkV f, .int .i64 a, .int .i64 8] w fun e w' => e = .returned (.tuple #[.string T, .int .i64 y]) ∧ Below w.heap.size w w') ∧
    (∀ w : World, Calls Try.prog 23 #[.string T] w fun e w' => e = .returned (.int .u64 (v : Int)) ∧ w' = w) := by
  by_cases h : Fit a 8
  · obtain ⟨h1, h2, h3⟩ := h
    obtain ⟨r, rfl⟩ : ∃ r : Nat, a = (r : Int) := ⟨a.toNat, by omega⟩
    refine ⟨le8f f r, _, 0, ?_, take64_fit f hf r (by omega), refTake_fit f r 8 (by omega), fun w => ?_⟩
    · rw [← horn8]
      exact hornN_lt f hf 8 r
    · have := refValue_any (strN (fun j => f (r + j)) 8) 8 (strN_size _ _) (by decide) w
      rw [hornN_congr (g' := f) 8 0 r (fun i hi => by rw [Nat.zero_add, strN_at (fun j => f (r + j)) _ _ hi (hf _)]), horn8] at this
      exact this
  · exact ⟨0, _, 40, by decide, take64_bad f a ha h, refTake_bad f a 8 ha (by omega) h, fun w => refValue_any (strN (fun _ => 0) 0) 0 (strN_size _ _) (by decide) w⟩

/-- the two boxes that the arguments lie in -/
def PartAt (w : World) (g : Nat) (f : Nat → Nat) (cs : Array Value) : Prop := Blk w g 23 (va 256 (iv .u8 f)) ∧ Blk w (g + 1) 38 cs
theorem PartAt.below {w w' : World} {g B : Nat} {f : Nat → Nat} {cs : Array Value} (h : PartAt w g f cs) (hb : Below B w w') (hB : g + 2 ≤ B) : PartAt w' g f cs := ⟨h.1.below hb (by omega), h.2.below hb (by omega)⟩
theorem PartAt.lt {w : World} {g : Nat} {f : Nat → Nat} {cs : Array Value} (h : PartAt w g f cs) : g + 2 ≤ w.heap.size := h.2.lt
theorem PartAt.alloc {w : World} {g : Nat} {f : Nat → Nat} {cs : Array Value} (h : PartAt w g f cs) (o : Obj) : PartAt (w.alloc o) g f cs := ⟨h.1.alloc o, h.2.alloc o⟩
theorem PartAt.other {w : World} {g k : Nat} {f : Nat → Nat} {cs : Array Value} (h : PartAt w g f cs) (c : Array Value) (hk : g + 2 ≤ k) : PartAt (w.setRow k c) g f cs := ⟨h.1.other c (by omega), h.2.other c (by omega)⟩
theorem PartAt.drew {w : World} {g : Nat} {f : Nat → Nat} {cs : Array Value} (h : PartAt w g f cs) : PartAt w.drew g f cs := h
theorem PartAt.cells {w : World} {g : Nat} {f : Nat → Nat} {a n x y : Int} {s : ByteArray} (h : PartAt w g f #[.int .i64 a, .int .i64 n, .string s, .int .u32 x, .int .u64 y]) :
    w.cell? ⟨g + 1, 0, none⟩ = some (.int .i64 a) ∧ w.cell? ⟨g + 1, 1, none⟩ = some (.int .i64 n) ∧ w.cell? ⟨g + 1, 2, none⟩ = some (.string s) ∧ w.cell? ⟨g + 1, 3, none⟩ = some (.int .u32 x) ∧ w.cell? ⟨g + 1, 4, none⟩ = some (.int .u64 y) :=
  ⟨by rw [h.2.cell]; rfl, by rw [h.2.cell]; rfl, by rw [h.2.cell]; rfl, by rw [h.2.cell]; rfl, by rw [h.2.cell]; rfl⟩

set_option maxRecDepth 100000 in
set_option maxHeartbeats 16000000 in
theorem blockPartsLaw (f : Nat → Nat) (hf : ∀ i, f i < 256) (a nn : Int) (ha : -9223372036854775808 ≤ a ∧ a ≤ 9223372036854775807) (hn : -9223372036854775808 ≤ nn ∧ nn ≤ 9223372036854775807) (s : ByteArray) (hs : s.size ≤ 9223372036854775807) (x y : Nat) (hx : x < 4294967296) (hy : y < 18446744073709551616) (w : World) :
    Calls Try.prog 4 #[bkV f, .agg #[.int .i64 a, .int .i64 nn, .string s, .int .u32 (x : Int), .int .u64 (y : Int)]] w fun e w' => e = .returned (.bool true) ∧ Below w.heap.size w w' := by
  have hA0 : ∀ w : World, Calls Try.prog 9 #[] w fun e w' => e = .returned (.bool true) ∧ Below w.heap.size w w' := fun w => awake4_any w
  obtain ⟨C1, e1, hL0, hRL0⟩ := lay_both f a ha s hs
  obtain ⟨T1, e2, hT0, hRT0⟩ := take_both f a nn ha hn
  obtain ⟨C2, e3, hL2, hRL20⟩ := lay_both f a ha (strN (dig x) 4) (by rw [strN_size]; decide)
  obtain ⟨C3, e4, hL3, hRL30⟩ := lay_both f a ha (strN (dig y) 8) (by rw [strN_size]; decide)
  have hL320 := lay32_by f a x C2 e3 hL2
  have hL640 := lay64_by f a y C3 e4 hL3
  have hN40 : ∀ w : World, Calls Try.prog 20 #[.int .u64 (x : Int), .int .i64 4] w fun e w' => e = .returned (.string (strN (dig x) 4)) ∧ Below w.heap.size w w' := fun w => refNumber_any x 4 (by omega) (by decide) (by decide) w
  have hN80 : ∀ w : World, Calls Try.prog 20 #[.int .u64 (y : Int), .int .i64 8] w fun e w' => e = .returned (.string (strN (dig y) 8)) ∧ Below w.heap.size w w' := fun w => refNumber_any y 8 (by omega) (by decide) (by decide) w
  generalize strN (dig x) 4 = S4 at *
  generalize strN (dig y) 8 = S8 at *
  obtain ⟨v4, T4, e5, hv4, hT320, hRT40, hV40⟩ := take32_both f hf a ha
  obtain ⟨v8, T8, e6, hv8, hT640, hRT80, hV80⟩ := take64_both f hf a ha
  have hA : Hid (∀ w : World, Calls Try.prog 9 #[] w fun e w' => e = .returned (.bool true) ∧ Below w.heap.size w w') := hA0
  have hL : Hid (∀ w : World, Calls Try.prog 15 #[bkV f, .int .i64 a, .string s] w fun e w' => e = .returned (.tuple #[bkV C1, .int .i64 e1]) ∧ Below w.heap.size w w') := hL0
  have hRL : Hid (∀ w : World, Calls Try.prog 16 #[bkV f, .int .i64 a, .string s] w fun e w' => e = .returned (.tuple #[bkV C1, .int .i64 e1]) ∧ Below w.heap.size w w') := hRL0
  have hT : Hid (∀ w : World, Calls Try.prog 17 #[bkV f, .int .i64 a, .int .i64 nn] w fun e w' => e = .returned (.tuple #[.string T1, .int .i64 e2]) ∧ Below w.heap.size w w') := hT0
  have hRT : Hid (∀ w : World, Calls Try.prog 18 #[bkV f, .int .i64 a, .int .i64 nn] w fun e w' => e = .returned (.tuple #[.string T1, .int .i64 e2]) ∧ Below w.heap.size w w') := hRT0
  have hL32 : Hid (∀ w : World, Calls Try.prog 19 #[bkV f, .int .i64 a, .int .u32 (x : Int)] w fun e w' => e = .returned (.tuple #[bkV C2, .int .i64 e3]) ∧ Below w.heap.size w w') := hL320
  have hRL2 : Hid (∀ w : World, Calls Try.prog 16 #[bkV f, .int .i64 a, .string S4] w fun e w' => e = .returned (.tuple #[bkV C2, .int .i64 e3]) ∧ Below w.heap.size w w') := hRL20
  have hL64 : Hid (∀ w : World, Calls Try.prog 21 #[bkV f, .int .i64 a, .int .u64 (y : Int)] w fun e w' => e = .returned (.tuple #[bkV C3, .int .i64 e4]) ∧ Below w.heap.size w w') := hL640
  have hRL3 : Hid (∀ w : World, Calls Try.prog 16 #[bkV f, .int .i64 a, .string S8] w fun e w' => e = .returned (.tuple #[bkV C3, .int .i64 e4]) ∧ Below w.heap.size w w') := hRL30
  have hN4 : Hid (∀ w : World, Calls Try.prog 20 #[.int .u64 (x : Int), .int .i64 4] w fun e w' => e = .returned (.string S4) ∧ Below w.heap.size w w') := hN40
  have hN8 : Hid (∀ w : World, Calls Try.prog 20 #[.int .u64 (y : Int), .int .i64 8] w fun e w' => e = .returned (.string S8) ∧ Below w.heap.size w w') := hN80
  have hT32 : Hid (∀ w : World, Calls Try.prog 22 #[bkV f, .int .i64 a] w fun e w' => e = .returned (.tuple #[.int .u32 (v4 : Int), .int .i64 e5]) ∧ Below w.heap.size w w') := hT320
  have hRT4 : Hid (∀ w : World, Calls Try.prog 18 #[bkV f, .int .i64 a, .int .i64 4] w fun e w' => e = .returned (.tuple #[.string T4, .int .i64 e5]) ∧ Below w.heap.size w w') := hRT40
  have hT64 : Hid (∀ w : World, Calls Try.prog 24 #[bkV f, .int .i64 a] w fun e w' => e = .returned (.tuple #[.int .u64 (v8 : Int), .int .i64 e6]) ∧ Below w.heap.size w w') := hT640
  have hRT8 : Hid (∀ w : World, Calls Try.prog 18 #[bkV f, .int .i64 a, .int .i64 8] w fun e w' => e = .returned (.tuple #[.string T8, .int .i64 e6]) ∧ Below w.heap.size w w') := hRT80
  have hV4 : Hid (∀ w : World, Calls Try.prog 23 #[.string T4] w fun e w' => e = .returned (.int .u64 (v4 : Int)) ∧ w = w') := fun w => (hV40 w).mono fun _ _ q => ⟨q.1, q.2.symm⟩
  have hV8 : Hid (∀ w : World, Calls Try.prog 23 #[.string T8] w fun e w' => e = .returned (.int .u64 (v8 : Int)) ∧ w = w') := fun w => (hV80 w).mono fun _ _ q => ⟨q.1, q.2.symm⟩
  have hq1 : ∀ w, (Op.equalIn 10000 23 (bkV C1) (bkV C1)).run Try.prog w = .ok true w := fun w => by
    rw [eq_bk 23 Try.underlying23, decide_eq_true (fun _ _ => rfl)]
  have hq2 : ∀ w, (Op.equalIn 10000 23 (bkV C2) (bkV C2)).run Try.prog w = .ok true w := fun w => by
    rw [eq_bk 23 Try.underlying23, decide_eq_true (fun _ _ => rfl)]
  have hq3 : ∀ w, (Op.equalIn 10000 23 (bkV C3) (bkV C3)).run Try.prog w = .ok true w := fun w => by
    rw [eq_bk 23 Try.underlying23, decide_eq_true (fun _ _ => rfl)]
  have hv4' : (v4 : Int) % 18446744073709551616 = (v4 : Int) := by
    have : v4 < 4294967296 := hv4
    omega
  have hx4 : (x : Int) % 18446744073709551616 = (x : Int) := by omega
  clear hA0 hL0 hRL0 hT0 hRT0 hL2 hL3 hL320 hRL20 hL640 hRL30 hN40 hN80 hT320 hRT40 hV40 hT640 hRT80 hV80 hv4 hv8 hf ha hn hs hx hy
  unfold bkV at *
  have hz := zero_bk
  have hz2 := zero_rbk
  have hP0 : PartAt ((w.alloc (Obj.cells (va 256 (iv IntKind.u8 f)) 23)).alloc (Obj.cells #[.int .i64 a, .int .i64 nn, .string s, .int .u32 (x : Int), .int .u64 (y : Int)] 38)) w.heap.size f #[.int .i64 a, .int .i64 nn, .string s, .int .u32 (x : Int), .int .u64 (y : Int)] := ⟨(Blk.new _ _ _).alloc _, Blk.new1 _ _ _ _⟩
  have hb0 := below_new2 w (Obj.cells (va 256 (iv IntKind.u8 f)) 23) (Obj.cells #[.int .i64 a, .int .i64 nn, .string s, .int .u32 (x : Int), .int .u64 (y : Int)] 38)
  go_enter Try.func4, Try.ntmps4
  go_wp2_with fail
  generalize (w.alloc (Obj.cells (va 256 (iv IntKind.u8 f)) 23)).alloc (Obj.cells #[.int .i64 a, .int .i64 nn, .string s, .int .u32 (x : Int), .int .u64 (y : Int)] 38) = w0 at *
  refine (hA.out _).mono ?_
  rintro e w1 ⟨rfl, hh⟩
  have hP1 := hP0.below hh hP0.lt
  have hb1 : Below w.heap.size w w1 := hb0.trans (hh.mono hb0.size)
  have hz1z : w0.heap.size ≤ w1.heap.size := hh.size
  clear hP0 hb0  hh hA
  obtain ⟨p0, p1, p2, p3, p4⟩ := hP1.cells
  go_wp2_with (first
    | (refine wpList_load_row (by rfl) 23 _ (by rfl) (w.heap.size) (by rfl) 23 (va 256 (iv .u8 f)) (0, 0) _ hP1.1 Try.underlying23 (by rfl) (sizeBk.trans (by rw [va_size])) ?_; simp only [Act.put, List.setIfInBounds_toArray, List.set_cons_zero, List.set_cons_succ])
    | fail)
  refine (hL.out _).mono ?_
  rintro e w2 ⟨rfl, hh⟩
  have hP2 := hP1.below hh hP1.lt
  have hb2 : Below w.heap.size w w2 := hb1.trans (hh.mono hb1.size)
  have hz2z : w1.heap.size ≤ w2.heap.size := hh.size
  clear hP1 hb1  hh hL
  clear p0 p1 p2 p3 p4
  have nn2 := Blk.new w2 23 (va 256 (iv .u8 fun _ => 0))
  have hP3 : PartAt ((w2.alloc (Obj.cells (va 256 (iv IntKind.u8 fun _ => 0)) 23)).setRow w2.heap.size (va 256 (iv .u8 C1))) w.heap.size f #[.int .i64 a, .int .i64 nn, .string s, .int .u32 (x : Int), .int .u64 (y : Int)] := (hP2.alloc (Obj.cells (va 256 (iv IntKind.u8 fun _ => 0)) 23)).other _ hP2.lt
  have hb3 : Below w.heap.size w ((w2.alloc (Obj.cells (va 256 (iv IntKind.u8 fun _ => 0)) 23)).setRow w2.heap.size (va 256 (iv .u8 C1))) := below_setRow (hb2.alloc hb2.size _) hb2.size _
  have gc3 := nn2.set (va 256 (iv .u8 C1))
  have lgc : w.heap.size + 2 ≤ w2.heap.size := hP2.lt
  clear hP2 hb2 
  obtain ⟨p0, p1, p2, p3, p4⟩ := hP3.cells
  go_wp2_with (first
    | (refine wpList_store_row (by rfl) 23 _ _ (by rfl) (w2.heap.size) (va 256 (iv .u8 C1)) (by rfl) (by rfl) 23 _ nn2 (sizeBk.trans (by rw [va_size])) (by simp only [va_size]) (iv_one _ _ _) ?_; simp only [Act.put, List.setIfInBounds_toArray, List.set_cons_zero, List.set_cons_succ])
    | (refine wpList_load_row (by rfl) 23 _ (by rfl) (w.heap.size) (by rfl) 23 (va 256 (iv .u8 f)) (0, 0) _ hP3.1 Try.underlying23 (by rfl) (sizeBk.trans (by rw [va_size])) ?_; simp only [Act.put, List.setIfInBounds_toArray, List.set_cons_zero, List.set_cons_succ])
    | fail)
  generalize (w2.alloc (Obj.cells (va 256 (iv IntKind.u8 fun _ => 0)) 23)).setRow w2.heap.size (va 256 (iv .u8 C1)) = w3 at *
  refine (hRL.out _).mono ?_
  rintro e w4 ⟨rfl, hh⟩
  have hP4 := hP3.below hh hP3.lt
  have hb4 : Below w.heap.size w w4 := hb3.trans (hh.mono hb3.size)
  have hz4z : w3.heap.size ≤ w4.heap.size := hh.size
  have gc4 := gc3.below hh gc3.lt
  clear hP3 hb3 gc3 hh hRL
  clear p0 p1 p2 p3 p4
  have nn4 := Blk.new w4 28 (va 256 (iv .u8 fun _ => 0))
  have hP5 : PartAt ((w4.alloc (Obj.cells (va 256 (iv IntKind.u8 fun _ => 0)) 28)).setRow w4.heap.size (va 256 (iv .u8 C1))) w.heap.size f #[.int .i64 a, .int .i64 nn, .string s, .int .u32 (x : Int), .int .u64 (y : Int)] := (hP4.alloc (Obj.cells (va 256 (iv IntKind.u8 fun _ => 0)) 28)).other _ hP4.lt
  have hb5 : Below w.heap.size w ((w4.alloc (Obj.cells (va 256 (iv IntKind.u8 fun _ => 0)) 28)).setRow w4.heap.size (va 256 (iv .u8 C1))) := below_setRow (hb4.alloc hb4.size _) hb4.size _
  have gc5 := (gc4.alloc (Obj.cells (va 256 (iv IntKind.u8 fun _ => 0)) 28)).other (g := w4.heap.size) (va 256 (iv .u8 C1)) (Nat.ne_of_lt gc4.lt)
  have gd5 := nn4.set (va 256 (iv .u8 C1))
  have lgd : w.heap.size + 2 ≤ w4.heap.size := hP4.lt
  have lgdgc : w2.heap.size < w4.heap.size := gc4.lt
  clear hP4 hb4 gc4
  obtain ⟨p0, p1, p2, p3, p4⟩ := hP5.cells
  go_wp2_with (first
    | (refine wpList_store_row (by rfl) 28 _ _ (by rfl) (w4.heap.size) (va 256 (iv .u8 C1)) (by rfl) (by rfl) 28 _ nn4 (sizeRbk.trans (by rw [va_size])) (by simp only [va_size]) (iv_one _ _ _) ?_; simp only [Act.put, List.setIfInBounds_toArray, List.set_cons_zero, List.set_cons_succ])
    | (refine wpList_load_row (by rfl) 23 _ (by rfl) (w.heap.size) (by rfl) 23 (va 256 (iv .u8 f)) (0, 0) _ hP5.1 Try.underlying23 (by rfl) (sizeBk.trans (by rw [va_size])) ?_; simp only [Act.put, List.setIfInBounds_toArray, List.set_cons_zero, List.set_cons_succ])
    | fail)
  generalize (w4.alloc (Obj.cells (va 256 (iv IntKind.u8 fun _ => 0)) 28)).setRow w4.heap.size (va 256 (iv .u8 C1)) = w5 at *
  refine (hT.out _).mono ?_
  rintro e w6 ⟨rfl, hh⟩
  have hP6 := hP5.below hh hP5.lt
  have hb6 : Below w.heap.size w w6 := hb5.trans (hh.mono hb5.size)
  have hz6z : w5.heap.size ≤ w6.heap.size := hh.size
  have gc6 := gc5.below hh gc5.lt
  have gd6 := gd5.below hh gd5.lt
  clear hP5 hb5 gc5 gd5 hh hT
  clear p0 p1 p2 p3 p4
  obtain ⟨p0, p1, p2, p3, p4⟩ := hP6.cells
  go_wp2_with (first
    | (refine wpList_load_row (by rfl) 23 _ (by rfl) (w.heap.size) (by rfl) 23 (va 256 (iv .u8 f)) (0, 0) _ hP6.1 Try.underlying23 (by rfl) (sizeBk.trans (by rw [va_size])) ?_; simp only [Act.put, List.setIfInBounds_toArray, List.set_cons_zero, List.set_cons_succ])
    | fail)
  refine (hRT.out _).mono ?_
  rintro e w7 ⟨rfl, hh⟩
  have hP7 := hP6.below hh hP6.lt
  have hb7 : Below w.heap.size w w7 := hb6.trans (hh.mono hb6.size)
  have hz7z : w6.heap.size ≤ w7.heap.size := hh.size
  have gc7 := gc6.below hh gc6.lt
  have gd7 := gd6.below hh gd6.lt
  clear hP6 hb6 gc6 gd6 hh hRT
  clear p0 p1 p2 p3 p4
  obtain ⟨p0, p1, p2, p3, p4⟩ := hP7.cells
  go_wp2_with (first
    | (refine wpList_load_row (by rfl) 23 _ (by rfl) (w.heap.size) (by rfl) 23 (va 256 (iv .u8 f)) (0, 0) _ hP7.1 Try.underlying23 (by rfl) (sizeBk.trans (by rw [va_size])) ?_; simp only [Act.put, List.setIfInBounds_toArray, List.set_cons_zero, List.set_cons_succ])
    | (refine wpList_load_row (by rfl) 23 _ (by rfl) (w2.heap.size) (by rfl) 23 (va 256 (iv .u8 C1)) (0, 0) _ gc7 Try.underlying23 (by rfl) (sizeBk.trans (by rw [va_size])) ?_; simp only [Act.put, List.setIfInBounds_toArray, List.set_cons_zero, List.set_cons_succ])
    | (refine wpList_load_row (by rfl) 28 _ (by rfl) (w4.heap.size) (by rfl) 28 (va 256 (iv .u8 C1)) (0, 0) _ gd7 Try.underlying28 (by rfl) (sizeRbk.trans (by rw [va_size])) ?_; simp only [Act.put, List.setIfInBounds_toArray, List.set_cons_zero, List.set_cons_succ])
    | fail)
  refine (hL32.out _).mono ?_
  rintro e w8 ⟨rfl, hh⟩
  have hP8 := hP7.below hh hP7.lt
  have hb8 : Below w.heap.size w w8 := hb7.trans (hh.mono hb7.size)
  have hz8z : w7.heap.size ≤ w8.heap.size := hh.size
  have gc8 := gc7.below hh gc7.lt
  have gd8 := gd7.below hh gd7.lt
  clear hP7 hb7 gc7 gd7 hh hL32
  clear p0 p1 p2 p3 p4 hq1
  have hP9 : PartAt (w8.setRow (w2.heap.size) (va 256 (iv .u8 C2))) w.heap.size f #[.int .i64 a, .int .i64 nn, .string s, .int .u32 (x : Int), .int .u64 (y : Int)] := hP8.other _ lgc
  have hb9 : Below w.heap.size w (w8.setRow (w2.heap.size) (va 256 (iv .u8 C2))) := below_setRow hb8 (by omega) _
  have gc9 := gc8.set (va 256 (iv .u8 C2))
  have gd9 := gd8.other (g := w2.heap.size) (va 256 (iv .u8 C2)) (by omega)
  go_wp2_with (first
    | (refine wpList_store_row (by rfl) 23 _ _ (by rfl) (w2.heap.size) (va 256 (iv .u8 C2)) (by rfl) (by rfl) 23 _ gc8 (sizeBk.trans (by rw [va_size])) (by simp only [va_size]) (iv_one _ _ _) ?_; simp only [Act.put, List.setIfInBounds_toArray, List.set_cons_zero, List.set_cons_succ])
    | fail)
  clear hP8 hb8 gc8 gd8
  generalize w8.setRow (w2.heap.size) (va 256 (iv .u8 C2)) = w9 at *
  obtain ⟨p0, p1, p2, p3, p4⟩ := PartAt.cells hP9.drew
  refine wp_region_partsI [] [([], 0, true), ([], 1, true), ([], 2, true), ([], 3, false), ([], 4, false), ([], 5, false), ([], 6, false), ([], 7, false), ([8, 9, 10], 11, false)] [12] [] (w.heap.size + 2) (by kernel_rfl) (by kernel_rfl) (fun _ hx => nomatch hx) (partsI_yield ?_)
  simp only [List.cons_append, List.nil_append, List.append_nil, List.filterMap_cons, List.filterMap_nil, List.getElem?_toArray, List.getElem?_cons_zero, List.getElem?_cons_succ]
  have hS : Below (w.heap.size + 2) w9 w9.drew := (Below.refl _ _).drew
  go_wp2_with fail
  refine ⟨rfl, _, .agg (va 256 (iv .u8 f)), rfl, kyields_load (by rfl) 23 _ (by rfl) (w.heap.size) 256 (iv .u8 f) (by rfl) _ 23 (fun W hW => (hP9.below hW (Nat.le_refl _)).1) Try.underlying23 rfl sizeBk, partsI_yield ?_⟩
  simp only [Act.put, List.setIfInBounds_toArray, List.set_cons_zero, List.set_cons_succ]
  simp only [List.cons_append, List.nil_append, List.append_nil, List.filterMap_cons, List.filterMap_nil, List.getElem?_toArray, List.getElem?_cons_zero, List.getElem?_cons_succ]
  go_wp2_with fail
  refine ⟨rfl, _, .pointer (some ⟨w.heap.size + 1, 0, none⟩), rfl, Or.inl ⟨by rfl, fun W hW => by go_simp⟩, partsI_yield ?_⟩
  simp only [Act.put, List.setIfInBounds_toArray, List.set_cons_zero, List.set_cons_succ]
  simp only [List.cons_append, List.nil_append, List.append_nil, List.filterMap_cons, List.filterMap_nil, List.getElem?_toArray, List.getElem?_cons_zero, List.getElem?_cons_succ]
  go_wp2_with fail
  refine ⟨rfl, _, .int .i64 a, rfl, Or.inl ⟨by rfl, fun W hW => by have hc := (hP9.below hW (Nat.le_refl _)).cells.1; go_simp⟩, partsI_force ?_⟩
  simp only [Act.put, List.setIfInBounds_toArray, List.set_cons_zero, List.set_cons_succ]
  simp only [List.cons_append, List.nil_append, List.append_nil, List.filterMap_cons, List.filterMap_nil, List.getElem?_toArray, List.getElem?_cons_zero, List.getElem?_cons_succ]
  go_wp2_with fail
  refine ⟨rfl, hS, partsI_force ?_⟩
  simp only [List.cons_append, List.nil_append, List.append_nil, List.filterMap_cons, List.filterMap_nil, List.getElem?_toArray, List.getElem?_cons_zero, List.getElem?_cons_succ]
  go_wp2_with fail
  refine ⟨rfl, hS, partsI_force ?_⟩
  simp only [List.cons_append, List.nil_append, List.append_nil, List.filterMap_cons, List.filterMap_nil, List.getElem?_toArray, List.getElem?_cons_zero, List.getElem?_cons_succ]
  go_wp2_with fail
  refine ⟨rfl, hS, partsI_force ?_⟩
  simp only [List.cons_append, List.nil_append, List.append_nil, List.filterMap_cons, List.filterMap_nil, List.getElem?_toArray, List.getElem?_cons_zero, List.getElem?_cons_succ]
  go_wp2_with fail
  refine (hN4.out _).mono ?_
  rintro e v1 ⟨rfl, k1⟩
  have gdA := gd9.drew.below k1 gd9.lt
  have gcA := gc9.drew.below k1 gc9.lt
  have hS1 : Below (w.heap.size + 2) w9 v1 := hS.trans (k1.mono hP9.lt)
  have z1 : w9.heap.size ≤ v1.heap.size := k1.size
  clear hS k1 p0 p1 p2 p3 p4 hN4
  have hS := hS1
  clear hS1
  go_wp2_with fail
  refine ⟨rfl, hS, partsI_force ?_⟩
  simp only [List.cons_append, List.nil_append, List.append_nil, List.filterMap_cons, List.filterMap_nil, List.getElem?_toArray, List.getElem?_cons_zero, List.getElem?_cons_succ]
  go_wp2_with fail
  refine (hRL2.out _).mono ?_
  rintro e v2 ⟨rfl, k2⟩
  have gdB := gdA.below k2 gdA.lt
  have gcB := gcA.below k2 gcA.lt
  have hS2 : Below (w.heap.size + 2) w9 v2 := hS.trans (k2.mono (Nat.le_trans hP9.lt z1))
  clear hS k2 gdA gcA hRL2
  have hS := hS2
  clear hS2
  go_wp2_with fail
  refine ⟨rfl, hS, partsI_force ?_⟩
  simp only [List.cons_append, List.nil_append, List.append_nil, List.filterMap_cons, List.filterMap_nil, List.getElem?_toArray, List.getElem?_cons_zero, List.getElem?_cons_succ]
  have hst := Blk.store (P := Try.prog) gdB (va 256 (iv .u8 C2)) (by simp only [va_size]) (va_mem_one _ _)
  have hvs := va_size 256 (iv .u8 C2)
  go_wp2_with fail
  have hS3 := below_setRow hS (Nat.le_trans lgd (Nat.le_refl _)) (va 256 (iv .u8 C2))
  have gcC := gcB.other (g := w4.heap.size) (va 256 (iv .u8 C2)) (by omega)
  have gdC := gdB.set (va 256 (iv .u8 C2))
  clear hS gcB gdB hst hvs
  have hS := hS3
  clear hS3
  generalize v2.setRow (w4.heap.size) (va 256 (iv .u8 C2)) = v3 at *
  refine ⟨rfl, hS, partsI_last ?_⟩
  simp only [List.cons_append, List.nil_append, List.append_nil, List.filterMap_cons, List.filterMap_nil, List.getElem?_toArray, List.getElem?_cons_zero, List.getElem?_cons_succ]
  go_wp2_with fail
  refine ⟨rfl, ?_⟩
  have hP10 := hP9.below hS (Nat.le_refl _)
  have hb10 : Below w.heap.size w v3 := hb9.trans (hS.mono (by omega))
  have gc10 := gcC
  have gd10 := gdC
  clear hP9 hb9 gc9 gd9 gcC gdC hS
  generalize v3 = w10 at *
  obtain ⟨p0, p1, p2, p3, p4⟩ := hP10.cells
  go_wp2_with (first
    | (refine wpList_load_row (by rfl) 23 _ (by rfl) (w.heap.size) (by rfl) 23 (va 256 (iv .u8 f)) (0, 0) _ hP10.1 Try.underlying23 (by rfl) (sizeBk.trans (by rw [va_size])) ?_; simp only [Act.put, List.setIfInBounds_toArray, List.set_cons_zero, List.set_cons_succ])
    | (refine wpList_load_row (by rfl) 23 _ (by rfl) (w2.heap.size) (by rfl) 23 (va 256 (iv .u8 C2)) (0, 0) _ gc10 Try.underlying23 (by rfl) (sizeBk.trans (by rw [va_size])) ?_; simp only [Act.put, List.setIfInBounds_toArray, List.set_cons_zero, List.set_cons_succ])
    | (refine wpList_load_row (by rfl) 28 _ (by rfl) (w4.heap.size) (by rfl) 28 (va 256 (iv .u8 C2)) (0, 0) _ gd10 Try.underlying28 (by rfl) (sizeRbk.trans (by rw [va_size])) ?_; simp only [Act.put, List.setIfInBounds_toArray, List.set_cons_zero, List.set_cons_succ])
    | fail)
  refine (hL64.out _).mono ?_
  rintro e w11 ⟨rfl, hh⟩
  have hP11 := hP10.below hh hP10.lt
  have hb11 : Below w.heap.size w w11 := hb10.trans (hh.mono hb10.size)
  have hz11z : w10.heap.size ≤ w11.heap.size := hh.size
  have gc11 := gc10.below hh gc10.lt
  have gd11 := gd10.below hh gd10.lt
  clear hP10 hb10 gc10 gd10 hh hL64
  clear p0 p1 p2 p3 p4 hq2
  have hP12 : PartAt (w11.setRow (w2.heap.size) (va 256 (iv .u8 C3))) w.heap.size f #[.int .i64 a, .int .i64 nn, .string s, .int .u32 (x : Int), .int .u64 (y : Int)] := hP11.other _ lgc
  have hb12 : Below w.heap.size w (w11.setRow (w2.heap.size) (va 256 (iv .u8 C3))) := below_setRow hb11 (by omega) _
  have gc12 := gc11.set (va 256 (iv .u8 C3))
  have gd12 := gd11.other (g := w2.heap.size) (va 256 (iv .u8 C3)) (by omega)
  go_wp2_with (first
    | (refine wpList_store_row (by rfl) 23 _ _ (by rfl) (w2.heap.size) (va 256 (iv .u8 C3)) (by rfl) (by rfl) 23 _ gc11 (sizeBk.trans (by rw [va_size])) (by simp only [va_size]) (iv_one _ _ _) ?_; simp only [Act.put, List.setIfInBounds_toArray, List.set_cons_zero, List.set_cons_succ])
    | fail)
  clear hP11 hb11 gc11 gd11
  generalize w11.setRow (w2.heap.size) (va 256 (iv .u8 C3)) = w12 at *
  obtain ⟨p0, p1, p2, p3, p4⟩ := PartAt.cells hP12.drew
  refine wp_region_partsI [] [([], 0, true), ([], 1, true), ([], 2, true), ([], 3, false), ([], 4, false), ([], 5, false), ([], 6, false), ([7, 8, 9], 10, false)] [11] [] (w.heap.size + 2) (by kernel_rfl) (by kernel_rfl) (fun _ hx => nomatch hx) (partsI_yield ?_)
  simp only [List.cons_append, List.nil_append, List.append_nil, List.filterMap_cons, List.filterMap_nil, List.getElem?_toArray, List.getElem?_cons_zero, List.getElem?_cons_succ]
  have hS : Below (w.heap.size + 2) w12 w12.drew := (Below.refl _ _).drew
  go_wp2_with fail
  refine ⟨rfl, _, .agg (va 256 (iv .u8 f)), rfl, kyields_load (by rfl) 23 _ (by rfl) (w.heap.size) 256 (iv .u8 f) (by rfl) _ 23 (fun W hW => (hP12.below hW (Nat.le_refl _)).1) Try.underlying23 rfl sizeBk, partsI_yield ?_⟩
  simp only [Act.put, List.setIfInBounds_toArray, List.set_cons_zero, List.set_cons_succ]
  simp only [List.cons_append, List.nil_append, List.append_nil, List.filterMap_cons, List.filterMap_nil, List.getElem?_toArray, List.getElem?_cons_zero, List.getElem?_cons_succ]
  go_wp2_with fail
  refine ⟨rfl, _, .pointer (some ⟨w.heap.size + 1, 0, none⟩), rfl, Or.inl ⟨by rfl, fun W hW => by go_simp⟩, partsI_yield ?_⟩
  simp only [Act.put, List.setIfInBounds_toArray, List.set_cons_zero, List.set_cons_succ]
  simp only [List.cons_append, List.nil_append, List.append_nil, List.filterMap_cons, List.filterMap_nil, List.getElem?_toArray, List.getElem?_cons_zero, List.getElem?_cons_succ]
  go_wp2_with fail
  refine ⟨rfl, _, .int .i64 a, rfl, Or.inl ⟨by rfl, fun W hW => by have hc := (hP12.below hW (Nat.le_refl _)).cells.1; go_simp⟩, partsI_force ?_⟩
  simp only [Act.put, List.setIfInBounds_toArray, List.set_cons_zero, List.set_cons_succ]
  simp only [List.cons_append, List.nil_append, List.append_nil, List.filterMap_cons, List.filterMap_nil, List.getElem?_toArray, List.getElem?_cons_zero, List.getElem?_cons_succ]
  go_wp2_with fail
  refine ⟨rfl, hS, partsI_force ?_⟩
  simp only [List.cons_append, List.nil_append, List.append_nil, List.filterMap_cons, List.filterMap_nil, List.getElem?_toArray, List.getElem?_cons_zero, List.getElem?_cons_succ]
  go_wp2_with fail
  refine ⟨rfl, hS, partsI_force ?_⟩
  simp only [List.cons_append, List.nil_append, List.append_nil, List.filterMap_cons, List.filterMap_nil, List.getElem?_toArray, List.getElem?_cons_zero, List.getElem?_cons_succ]
  go_wp2_with fail
  refine (hN8.out _).mono ?_
  rintro e v1 ⟨rfl, k1⟩
  have gdA := gd12.drew.below k1 gd12.lt
  have gcA := gc12.drew.below k1 gc12.lt
  have hS1 : Below (w.heap.size + 2) w12 v1 := hS.trans (k1.mono hP12.lt)
  have z1 : w12.heap.size ≤ v1.heap.size := k1.size
  clear hS k1 p0 p1 p2 p3 p4 hN8
  have hS := hS1
  clear hS1
  go_wp2_with fail
  refine ⟨rfl, hS, partsI_force ?_⟩
  simp only [List.cons_append, List.nil_append, List.append_nil, List.filterMap_cons, List.filterMap_nil, List.getElem?_toArray, List.getElem?_cons_zero, List.getElem?_cons_succ]
  go_wp2_with fail
  refine (hRL3.out _).mono ?_
  rintro e v2 ⟨rfl, k2⟩
  have gdB := gdA.below k2 gdA.lt
  have gcB := gcA.below k2 gcA.lt
  have hS2 : Below (w.heap.size + 2) w12 v2 := hS.trans (k2.mono (Nat.le_trans hP12.lt z1))
  clear hS k2 gdA gcA hRL3
  have hS := hS2
  clear hS2
  go_wp2_with fail
  refine ⟨rfl, hS, partsI_force ?_⟩
  simp only [List.cons_append, List.nil_append, List.append_nil, List.filterMap_cons, List.filterMap_nil, List.getElem?_toArray, List.getElem?_cons_zero, List.getElem?_cons_succ]
  have hst := Blk.store (P := Try.prog) gdB (va 256 (iv .u8 C3)) (by simp only [va_size]) (va_mem_one _ _)
  have hvs := va_size 256 (iv .u8 C3)
  go_wp2_with fail
  have hS3 := below_setRow hS (Nat.le_trans lgd (Nat.le_refl _)) (va 256 (iv .u8 C3))
  have gcC := gcB.other (g := w4.heap.size) (va 256 (iv .u8 C3)) (by omega)
  have gdC := gdB.set (va 256 (iv .u8 C3))
  clear hS gcB gdB hst hvs
  have hS := hS3
  clear hS3
  generalize v2.setRow (w4.heap.size) (va 256 (iv .u8 C3)) = v3 at *
  refine ⟨rfl, hS, partsI_last ?_⟩
  simp only [List.cons_append, List.nil_append, List.append_nil, List.filterMap_cons, List.filterMap_nil, List.getElem?_toArray, List.getElem?_cons_zero, List.getElem?_cons_succ]
  go_wp2_with fail
  refine ⟨rfl, ?_⟩
  have hP13 := hP12.below hS (Nat.le_refl _)
  have hb13 : Below w.heap.size w v3 := hb12.trans (hS.mono (by omega))
  have gc13 := gcC
  have gd13 := gdC
  clear hP12 hb12 gc12 gd12 gcC gdC hS
  generalize v3 = w13 at *
  obtain ⟨p0, p1, p2, p3, p4⟩ := hP13.cells
  go_wp2_with (first
    | (refine wpList_load_row (by rfl) 23 _ (by rfl) (w.heap.size) (by rfl) 23 (va 256 (iv .u8 f)) (0, 0) _ hP13.1 Try.underlying23 (by rfl) (sizeBk.trans (by rw [va_size])) ?_; simp only [Act.put, List.setIfInBounds_toArray, List.set_cons_zero, List.set_cons_succ])
    | (refine wpList_load_row (by rfl) 23 _ (by rfl) (w2.heap.size) (by rfl) 23 (va 256 (iv .u8 C3)) (0, 0) _ gc13 Try.underlying23 (by rfl) (sizeBk.trans (by rw [va_size])) ?_; simp only [Act.put, List.setIfInBounds_toArray, List.set_cons_zero, List.set_cons_succ])
    | (refine wpList_load_row (by rfl) 28 _ (by rfl) (w4.heap.size) (by rfl) 28 (va 256 (iv .u8 C3)) (0, 0) _ gd13 Try.underlying28 (by rfl) (sizeRbk.trans (by rw [va_size])) ?_; simp only [Act.put, List.setIfInBounds_toArray, List.set_cons_zero, List.set_cons_succ])
    | fail)
  refine (hT32.out _).mono ?_
  rintro e w14 ⟨rfl, hh⟩
  have hP14 := hP13.below hh hP13.lt
  have hb14 : Below w.heap.size w w14 := hb13.trans (hh.mono hb13.size)
  have hz14z : w13.heap.size ≤ w14.heap.size := hh.size
  have gc14 := gc13.below hh gc13.lt
  have gd14 := gd13.below hh gd13.lt
  clear hP13 hb13 gc13 gd13 hh hT32
  clear p0 p1 p2 p3 p4 hq3
  obtain ⟨p0, p1, p2, p3, p4⟩ := hP14.cells
  go_wp2_with (first
    | (refine wpList_load_row (by rfl) 23 _ (by rfl) (w.heap.size) (by rfl) 23 (va 256 (iv .u8 f)) (0, 0) _ hP14.1 Try.underlying23 (by rfl) (sizeBk.trans (by rw [va_size])) ?_; simp only [Act.put, List.setIfInBounds_toArray, List.set_cons_zero, List.set_cons_succ])
    | fail)
  refine (hRT4.out _).mono ?_
  rintro e w15 ⟨rfl, hh⟩
  have hP15 := hP14.below hh hP14.lt
  have hb15 : Below w.heap.size w w15 := hb14.trans (hh.mono hb14.size)
  have hz15z : w14.heap.size ≤ w15.heap.size := hh.size
  have gc15 := gc14.below hh gc14.lt
  have gd15 := gd14.below hh gd14.lt
  clear hP14 hb14 gc14 gd14 hh hRT4
  clear p0 p1 p2 p3 p4
  go_wp2_with fail
  refine (hV4.out _).mono ?_
  rintro e _ ⟨rfl, rfl⟩
  clear hV4
  obtain ⟨p0, p1, p2, p3, p4⟩ := hP15.cells
  go_wp2_with (first
    | (refine wpList_load_row (by rfl) 23 _ (by rfl) (w.heap.size) (by rfl) 23 (va 256 (iv .u8 f)) (0, 0) _ hP15.1 Try.underlying23 (by rfl) (sizeBk.trans (by rw [va_size])) ?_; simp only [Act.put, List.setIfInBounds_toArray, List.set_cons_zero, List.set_cons_succ])
    | fail)
  refine (hT64.out _).mono ?_
  rintro e w16 ⟨rfl, hh⟩
  have hP16 := hP15.below hh hP15.lt
  have hb16 : Below w.heap.size w w16 := hb15.trans (hh.mono hb15.size)
  have hz16z : w15.heap.size ≤ w16.heap.size := hh.size
  have gc16 := gc15.below hh gc15.lt
  have gd16 := gd15.below hh gd15.lt
  clear hP15 hb15 gc15 gd15 hh hT64
  clear p0 p1 p2 p3 p4
  obtain ⟨p0, p1, p2, p3, p4⟩ := hP16.cells
  go_wp2_with (first
    | (refine wpList_load_row (by rfl) 23 _ (by rfl) (w.heap.size) (by rfl) 23 (va 256 (iv .u8 f)) (0, 0) _ hP16.1 Try.underlying23 (by rfl) (sizeBk.trans (by rw [va_size])) ?_; simp only [Act.put, List.setIfInBounds_toArray, List.set_cons_zero, List.set_cons_succ])
    | fail)
  refine (hRT8.out _).mono ?_
  rintro e w17 ⟨rfl, hh⟩
  have hP17 := hP16.below hh hP16.lt
  have hb17 : Below w.heap.size w w17 := hb16.trans (hh.mono hb16.size)
  have hz17z : w16.heap.size ≤ w17.heap.size := hh.size
  have gc17 := gc16.below hh gc16.lt
  have gd17 := gd16.below hh gd16.lt
  clear hP16 hb16 gc16 gd16 hh hRT8
  clear p0 p1 p2 p3 p4
  go_wp2_with fail
  refine (hV8.out _).mono ?_
  rintro e _ ⟨rfl, rfl⟩
  clear hV8
  go_wp2_with fail
  go_ret
  exact ⟨rfl, hb17⟩
end Go.Proofs.Ytaoglljkghkbpaa
