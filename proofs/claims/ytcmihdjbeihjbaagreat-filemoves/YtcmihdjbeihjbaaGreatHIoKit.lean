/- Inodes: as plain things, their cells, how two compare. -/
import Derived.Test.YtcmihdjbeihjbaaGreatHLogKit
import Derived.Handy
import Derived.ArgAppend
import Derived.Lib.ConvBytes
import Derived.Test.YtcmihdjbeihjbaaGreatHOrders
import Derived.Deep.RegionWith
import Derived.Deep.DrawnRows
import Derived.Deep.RegionLaw
import Derived.Deep.Heap
import Derived.Test.YtcmihdjbeihjbaaGreatRows
import Derived.Laws.BytesArg
import Derived.Test.YtcmihdjbeihjbaaGreatHFlText

namespace Go.Proofs.YtcmihdjbeihjbaaGreat
open Go.RowKit
set_option linter.unusedSimpArgs false
set_option linter.unusedVariables false

/-- the cells of a list of entries -/
def entCells (E : List (Nat × ByteArray)) : List Value := E.flatMap fun e => [.int .u8 ((e.1 : Nat) : Int), .string e.2]
/-- the log in block g, its map in block r, its entries in the slice v -/
def LogAt (w : World) (g r : Nat) (v : Value) (E : List (Nat × ByteArray)) : Prop :=
  Blk w g 110 #[v, .map (some r)] ∧ w.ownsRow 0 259 2 v E.length (entCells E) ∧ MapIs entV sumV w r (E.map fun e => (e, sumOf e))

set_option maxHeartbeats 1000000 in
theorem newLog_any (w : World) :
    Calls Tryz.prog 12 #[] w fun e w' => ∃ g r, e = .returned (.pointer (some ⟨g, 0, none⟩)) ∧ w.heap.size ≤ g ∧ w.heap.size ≤ r ∧ LogAt w' g r (.slice none 0 0) [] ∧ Below w.heap.size w w' := by
  have hmm := @run_makeMap Tryz.prog
  go_enter Tryz.func12, Tryz.ntmps12
  go_wp2_with fail
  go_returns
  have e : (w.alloc (Obj.map #[] 0)).heap.size = w.heap.size + 1 := by simp
  have b1 : Below w.heap.size w (w.alloc (Obj.map #[] 0)) := (Below.refl _ _).alloc (Nat.le_refl _) _
  refine ⟨w.heap.size + 1, w.heap.size, rfl, by omega, Nat.le_refl _, ⟨?_, ?_, ?_⟩, b1.alloc (by omega) _⟩
  · rw [← e]
    exact Blk.new _ _ _
  · exact World.ownsRow_nil _ _ _ _
  · refine ⟨#[], 0, ?_, rfl⟩
    rw [heap_alloc_old _ _ (by omega)]
    exact heap_alloc_new w _

/-- whether an entry is there, and the digest that is found -/
def isIn (e : Nat × ByteArray) (E : List (Nat × ByteArray)) : Bool := (findIn e (E.map fun e => (e, sumOf e))).isSome
def lookS (e : Nat × ByteArray) (E : List (Nat × ByteArray)) : Nat → Nat := (findIn e (E.map fun e => (e, sumOf e))).getD fun _ => 0
theorem LogAt.look {w : World} {g r : Nat} {v : Value} {E : List (Nat × ByteArray)} (h : LogAt w g r v E) (e : Nat × ByteArray) (ok : Bool) {w' : World} (hb : Below w.heap.size w w') :
    Sem.run Tryz.prog (Instr.lookup 107 (.map (some r)) (.agg #[.int .u8 ((e.1 : Nat) : Int), .string e.2]) ok) w' =
      .ok (if ok then .tuple #[.agg (va 32 (iv .u8 (lookS e E))), .bool (isIn e E)] else .agg (va 32 (iv .u8 (lookS e E)))) w' := by
  obtain ⟨es, clock, hg, he⟩ := h.2.2
  have := run_lookup_is Tryz.underlying107 entry_key zero_sum (MapIs.below h.2.2 hb (Array.getElem?_eq_some_iff.1 hg).1) e ok
  have e1 : ((findIn e (E.map fun e => (e, sumOf e))).map sumV).getD (sumV fun _ => 0) = .agg (va 32 (iv .u8 (lookS e E))) := by
    unfold lookS
    cases findIn e (E.map fun e => (e, sumOf e)) <;> rfl
  rw [e1] at this
  exact this
end Go.Proofs.YtcmihdjbeihjbaaGreat

namespace Go.Proofs.YtcmihdjbeihjbaaGreat
open Go Go.RowKit
set_option linter.unusedVariables false

/-- the slice v of m bytes, told by f, in a block from B on; all up to its capacity may be written -/
def RowC (w : World) (B : Nat) (v : Value) (m : Nat) (f : Nat → Nat) : Prop :=
  ∃ b cap, v = .slice (some ⟨b, 0, none⟩) m cap ∧ B ≤ b ∧ b < w.heap.size ∧ m ≤ cap ∧ (∀ j, j < m → w.cell? ⟨b, j, none⟩ = some (.int .u8 ((f j : Nat) : Int))) ∧
    (∀ j, j < cap → (w.cell? ⟨b, j, none⟩).isSome = true ∧ w.frozen? ⟨b, j, none⟩ = false)
theorem RowC.below {w w' : World} {B B' m : Nat} {v : Value} {f : Nat → Nat} (h : RowC w B v m f) (hb : Below B' w w') (hB : w.heap.size ≤ B') : RowC w' B v m f := by
  obtain ⟨b, cap, rfl, h1, h2, h3, h4, h5⟩ := h
  have hblk : w'.heap[b]? = w.heap[b]? := hb.block b (by omega)
  have e1 : ∀ j, w'.cell? ⟨b, j, none⟩ = w.cell? ⟨b, j, none⟩ := fun j => by simp [World.cell?, hblk]
  have e2 : ∀ j, w'.frozen? ⟨b, j, none⟩ = w.frozen? ⟨b, j, none⟩ := fun j => by simp [World.frozen?, hblk]
  exact ⟨b, cap, rfl, h1, Nat.lt_of_lt_of_le h2 hb.size, h3, fun j hj => by rw [e1]; exact h4 j hj, fun j hj => by rw [e1, e2]; exact h5 j hj⟩
theorem RowC.congr {w : World} {B m : Nat} {v : Value} {f g : Nat → Nat} (h : RowC w B v m f) (e : ∀ j, j < m → f j = g j) : RowC w B v m g := by
  obtain ⟨b, cap, rfl, h1, h2, h3, h4, h5⟩ := h
  exact ⟨b, cap, rfl, h1, h2, h3, fun j hj => by rw [h4 j hj, e j hj], h5⟩

end Go.Proofs.YtcmihdjbeihjbaaGreat

namespace Go.Proofs.YtcmihdjbeihjbaaGreat
open Go Go.RowKit
set_option linter.unusedSimpArgs false
set_option linter.unusedVariables false

/-- of the first n digests: k the least place with a like one ahead of it, i the first such; or none -/
def CollIs {α : Type} (D : Nat → α) (n i k : Nat) (b : Bool) : Prop :=
  (b = true ∧ i < k ∧ k < n ∧ D i = D k ∧ (∀ x, x < i → D x ≠ D k) ∧ ∀ y, y < k → ∀ x, x < y → D x ≠ D y) ∨
  (b = false ∧ i = 0 ∧ k = 0 ∧ ∀ y, y < n → ∀ x, x < y → D x ≠ D y)
theorem CollIs.same {α : Type} {D : Nat → α} {n i k i' k' : Nat} {b b' : Bool} (h : CollIs D n i k b) (h' : CollIs D n i' k' b') : i' = i ∧ k' = k ∧ b' = b := by
  rcases h with ⟨rfl, h1, h2, h3, h4, h5⟩ | ⟨rfl, rfl, rfl, h5⟩
  · rcases h' with ⟨rfl, g1, g2, g3, g4, g5⟩ | ⟨rfl, rfl, rfl, g5⟩
    · have hk : k' = k := by
        rcases Nat.lt_trichotomy k' k with q | q | q
        · exact absurd g3 (h5 k' q i' g1)
        · exact q
        · exact absurd h3 (g5 k q i h1)
      subst hk
      refine ⟨?_, rfl, rfl⟩
      rcases Nat.lt_trichotomy i' i with q | q | q
      · exact absurd g3 (h4 i' q)
      · exact q
      · exact absurd h3 (g4 i q)
    · exact absurd h3 (g5 k h2 i h1)
  · rcases h' with ⟨rfl, g1, g2, g3, g4, g5⟩ | ⟨rfl, rfl, rfl, g5⟩
    · exact absurd g3 (h5 k' g2 i' g1)
    · exact ⟨rfl, rfl, rfl⟩

def dF (d : Vector Nat 32) : Nat → Nat := fun i => (d[i]?).getD 0
def dK (d : Vector Nat 32) : Value := .agg (va 32 (iv .u8 (dF d)))
theorem dF_inj {a b : Vector Nat 32} (h : ∀ i, i < 32 → dF a i = dF b i) : a = b := by
  apply Vector.ext
  intro i hi
  have := h i hi
  unfold dF at this
  simpa [hi] using this

end Go.Proofs.YtcmihdjbeihjbaaGreat

namespace Go.Proofs.YtcmihdjbeihjbaaGreat
open Go Go.RowKit
set_option linter.unusedSimpArgs false
set_option linter.unusedVariables false

def sumD (f : Nat → Nat) : Vector Nat 32 := Vector.ofFn fun i : Fin 32 => f i.1
theorem dF_sumD (f : Nat → Nat) (i : Nat) (hi : i < 32) : dF (sumD f) i = f i := by
  unfold dF sumD
  simp [hi]
theorem va_extract (n o m : Nat) (f : Nat → Value) (h : o + m ≤ n) : (va n f).extract o (o + m) = va m fun i => f (o + i) := by
  refine va_ext (by rw [Array.size_extract, va_size]; omega) fun i hi => ?_
  rw [Array.getElem?_extract, va_size]
  rw [if_pos (by omega)]
  exact va_at f (by omega)
def rfF (a : Nat) (d : Vector Nat 32) : Nat → Value := fun i => if i = 0 then .int .u32 ((a : Nat) : Int) else .int .u8 ((dF d (i - 1) : Nat) : Int)
theorem rf_sum (a : Nat) (d : Vector Nat 32) : (va 32 fun i => rfF a d (1 + i)) = va 32 (iv .u8 (dF d)) := va_congr fun i _ => by
  unfold rfF iv
  rw [if_neg (by omega), show 1 + i - 1 = i by omega]
theorem size_at (t n : Nat) (h : (Tryz.prog.info? t).map (·.size) = some n) (w : World) : (sizeOf t).run Tryz.prog w = .ok n w := by
  cases hq : Tryz.prog.info? t with
  | none => simp [hq] at h
  | some i =>
    have hi : i.size = n := by simpa [hq] using h
    simp [sizeOf, typeInfo, hq, hi]
theorem slSizeRef : (Tryz.prog.info? 54).map (·.size) = some 33 := by kernel_rfl
theorem sizeSm : (Tryz.prog.info? 52).map (·.size) = some 32 := by kernel_rfl
theorem part_sum (a : Nat) (d : Vector Nat 32) (w : World) : (part 52 (va 33 (rfF a d)) 1).run Tryz.prog w = .ok (dK d) w := by
  have e : (va 33 (rfF a d)).extract 1 (1 + 32) = va 32 (iv .u8 (dF d)) := by
    rw [va_extract 33 1 32 _ (by decide), rf_sum]
  simp [part, isAgg, run_underlying Tryz.underlying52, size_at _ _ sizeSm]
  unfold dK
  rw [← e]
theorem part_int (t : TypeId) (k : IntKind) (h : Tryz.prog.underlying t = some (.int k)) (cs : Array Value) (o : Nat) (v : Value) (hv : cs[o]? = some v) (w : World) : (part t cs o).run Tryz.prog w = .ok v w := by
  simp [part, isAgg, run_underlying h, hv]
set_option maxRecDepth 100000 in
theorem eq_digAt (d : Nat) (t : TypeId) (ht : Tryz.prog.underlying t = some (.array 32 5)) (a b : Vector Nat 32) (w : World) : (Op.equalIn (d + 1 + 1) t (dK a) (dK b)).run Tryz.prog w = .ok (decide (a = b)) w := by
  obtain ⟨i, hi⟩ : ∃ i, Tryz.prog.info? 5 = some i := Option.isSome_iff_exists.1 (by kernel_rfl)
  have hc : Tryz.prog.cellsOf 5 = 1 := by kernel_rfl
  unfold dK
  rw [run_equalIn_array w (d + 1) (va 32 (iv .u8 (dF a))) (va 32 (iv .u8 (dF b))) ht hi, hc,
    run_items d Tryz.underlying5 (fun i => ((dF a i : Nat) : Int)) (fun i => ((dF b i : Nat) : Int)) (va 32 (iv .u8 (dF a))) (va 32 (iv .u8 (dF b))) _ (fun i hi => ⟨va_at (iv .u8 (dF a)) (by simpa using hi), va_at (iv .u8 (dF b)) (by simpa using hi)⟩)]
  congr 1
  rw [Bool.eq_iff_iff, List.all_eq_true, decide_eq_true_eq]
  constructor
  · intro h
    refine dF_inj fun i hi => ?_
    have := h i (by simpa using hi)
    simp only [beq_iff_eq] at this
    omega
  · rintro rfl i _
    simp
/-- two structs of two fields compared -/
theorem run_eq_two {P : Program} {w : World} {d : Nat} {t t1 t2 o1 o2 : Nat} {cs ds : Array Value} {x1 y1 x2 y2 : Value} {b1 b2 : Bool} (hu : P.underlying t = some (.struct (P.fieldsOf t))) (hp : P.stoodInHeld t = false)
    (hf : (P.fieldsOf t).toList.map (fun f => (f.name == "_", f.type, f.offset)) = [(false, t1, o1), (false, t2, o2)])
    (p1 : (part t1 cs o1).run P w = .ok x1 w) (q1 : (part t1 ds o1).run P w = .ok y1 w) (p2 : (part t2 cs o2).run P w = .ok x2 w) (q2 : (part t2 ds o2).run P w = .ok y2 w)
    (h1 : (Op.equalIn d t1 x1 y1).run P w = .ok b1 w) (h2 : (Op.equalIn d t2 x2 y2).run P w = .ok b2 w) : (Op.equalIn (d + 1) t (.agg cs) (.agg ds)).run P w = .ok (b1 && b2) w := by
  rw [run_equalIn_struct w d t cs ds hu hp]
  obtain ⟨f, l1, e1, hf1, hl1⟩ := List.map_eq_cons_iff.1 hf
  obtain ⟨g, l2, e2, hg1, hl2⟩ := List.map_eq_cons_iff.1 hl1
  have e3 := List.map_eq_nil_iff.1 hl2
  subst e3 e2
  rw [e1]
  simp only [Prod.mk.injEq] at hf1 hg1
  obtain ⟨n1, rfl, rfl⟩ := hf1
  obtain ⟨n2, rfl, rfl⟩ := hg1
  have n1' : f.name ≠ "_" := by simpa using n1
  have n2' : g.name ≠ "_" := by simpa using n2
  unfold Op.eqFields
  rw [if_pos n1']
  unfold Op.eqFields
  rw [if_pos n2']
  simp only [Sem.run_bind, p1, q1, Result.andThen_ok, h1]
  cases b1
  · simp
  · simp only [Bool.not_true, Bool.false_eq_true, if_false, Sem.run_bind, p2, q2, Result.andThen_ok, h2]
    cases b2
    · simp
    · simp [Op.eqFields]
theorem eq_root (d : Nat) (a b : Nat) (x y : Vector Nat 32) (w : World) : (Op.equalIn (d + 1 + 1 + 1) 54 (.agg (va 33 (rfF a x))) (.agg (va 33 (rfF b y)))).run Tryz.prog w = .ok (decide ((a, x) = (b, y))) w := by
  have h1 : (Op.equalIn (d + 1 + 1) 50 (.int .u32 (a : Int)) (.int .u32 (b : Int))).run Tryz.prog w = .ok ((a : Int) == (b : Int)) w := by simp [Op.equalIn, run_underlying Tryz.underlying50]
  have h2 := eq_digAt d 52 Tryz.underlying52 x y w
  have hd : decide ((a, x) = (b, y)) = (((a : Int) == (b : Int)) && decide (x = y)) := by
    rw [Bool.eq_iff_iff]
    simp only [decide_eq_true_eq, Bool.and_eq_true, beq_iff_eq, Prod.mk.injEq]
    constructor
    · rintro ⟨h, k⟩
      exact ⟨by omega, k⟩
    · rintro ⟨h, k⟩
      exact ⟨by omega, k⟩
  rw [hd]
  have p1 : (part 50 (va 33 (rfF a x)) 0).run Tryz.prog w = .ok (.int .u32 ((a : Nat) : Int)) w := part_int _ _ Tryz.underlying50 _ _ _ (va_at (rfF a x) (by decide)) w
  have q1 : (part 50 (va 33 (rfF b y)) 0).run Tryz.prog w = .ok (.int .u32 ((b : Nat) : Int)) w := part_int _ _ Tryz.underlying50 _ _ _ (va_at (rfF b y) (by decide)) w
  have p2 := part_sum a x w
  have q2 := part_sum b y w
  generalize va 33 (rfF a x) = cs at *
  generalize va 33 (rfF b y) = ds at *
  have hu : Tryz.prog.underlying 54 = some (.struct (Tryz.prog.fieldsOf 54)) := by kernel_rfl
  have hp : Tryz.prog.stoodInHeld 54 = false := by kernel_rfl
  have hf : (Tryz.prog.fieldsOf 54).toList.map (fun f => (f.name == "_", f.type, f.offset)) = [(false, 50, 0), (false, 52, 1)] := by kernel_rfl
  exact run_eq_two hu hp hf p1 q1 p2 q2 h1 h2
end Go.Proofs.YtcmihdjbeihjbaaGreat

namespace Go.Proofs.YtcmihdjbeihjbaaGreat
open Go Go.RowKit
set_option linter.unusedSimpArgs false
set_option linter.unusedVariables false

theorem tbyte_get (s : ByteArray) (i : Nat) (h : i < s.size) : tbyte s i = s[i].toNat := by
  have h' : i < s.data.size := h
  simp [tbyte, List.getD]
  rw [Array.getElem?_eq_getElem h']; rfl
def at4 (s : ByteArray) (a : Nat) : Nat := le4 (tbyte s a) (tbyte s (a + 1)) (tbyte s (a + 2)) (tbyte s (a + 3))
set_option maxHeartbeats 400000 in
theorem there_yes (s : ByteArray) (a k : Nat) (hs : s.size ≤ maxLen) (hk : k ≤ 8) (h : a + k ≤ s.size) (w : World) :
    Calls Tryz.prog 115 #[.string s, .int .i64 (a : Int), .int .i64 (k : Int)] w fun e w' => e = .returned (.bool true) ∧ w' = w := by
  unfold maxLen at hs
  have e1 : decide ((a : Int) ≤ (s.size : Int) - (k : Int)) = true := by simp; omega
  go_enter Tryz.func115, Tryz.ntmps115
  go_wp2
  go_ret
  exact ⟨by simp, rfl⟩
set_option maxHeartbeats 1000000 in
theorem take32_yes (s : ByteArray) (a : Nat) (hs : s.size ≤ maxLen) (h : a + 4 ≤ s.size) (w : World) :
    Calls Tryz.prog 118 #[.string s, .int .i64 (a : Int)] w fun e w' => e = .returned (.tuple #[.int .u32 (at4 s a : Int), .bool true]) ∧ Below w.heap.size w w' := by
  have hs' := hs
  unfold maxLen at hs
  have HE : Hid (at4 s a = le4 s[a].toNat s[a + 1].toNat s[a + 2].toNat s[a + 3].toNat) := by
    show at4 s a = le4 s[a].toNat s[a + 1].toNat s[a + 2].toNat s[a + 3].toNat
    unfold at4; rw [tbyte_get s a (by omega), tbyte_get s (a + 1) (by omega), tbyte_get s (a + 2) (by omega), tbyte_get s (a + 3) (by omega)]
  go_enter Tryz.func118, Tryz.ntmps118
  go_wp2_with fail
  refine (there_yes s a 4 hs' (by decide) h _).mono ?_
  rintro e w' ⟨rfl, rfl⟩
  go_wp2
  refine wp_loop_rounds 5 ?_
  rw [rounds_succ]
  go_wp2
  rw [rounds_succ]
  go_wp2
  rw [rounds_succ]
  go_wp2
  rw [rounds_succ]
  go_wp2
  rw [rounds_succ]
  go_wp2_with fail
  refine (of32_any _ _ _ _ (UInt8.toNat_lt _) (UInt8.toNat_lt _) (UInt8.toNat_lt _) (UInt8.toNat_lt _) _).mono ?_
  rintro e w1 ⟨rfl, hb⟩
  go_wp2
  go_ret2
  rw [HE.out]
  refine ⟨rfl, ?_⟩
  exact ((Below.refl _ _).alloc (Nat.le_refl _) _).trans (hb.mono (by simp))
end Go.Proofs.YtcmihdjbeihjbaaGreat

namespace Go.Proofs.YtcmihdjbeihjbaaGreat
open Go Go.RowKit
set_option linter.unusedSimpArgs false
set_option linter.unusedVariables false

/-- a reference, as a plain thing -/
abbrev Rf := Nat × Vector Nat 32
def rfC (r : Rf) : Array Value := va 33 (rfF r.1 r.2)
def rf0 : Rf := (0, Vector.replicate 32 0)
theorem rfC_size (r : Rf) : (rfC r).size = 33 := va_size _ _
theorem rfF_one (a : Nat) (d : Vector Nat 32) (i : Nat) : (rfF a d i).oneCell' = true := by
  unfold rfF
  split <;> rfl
theorem rfC_all (r : Rf) : (rfC r).all (·.oneCell') = true := va_one fun i _ => rfF_one _ _ _
/-- is a reference right? -/
def rOk (r : Rf) : Bool := decide (r = rf0) || decide (r.1 ≠ 0)
theorem zero_of {t : TypeId} {v : Value} (h : (Tryz.prog.info? t).bind (·.zero) = some v) (w : World) : (zeroValue t).run Tryz.prog w = .ok v w := by
  cases hq : Tryz.prog.info? t with
  | none => simp [hq] at h
  | some i =>
    have hi : i.zero = some v := by simpa [hq] using h
    simp [zeroValue, typeInfo, hq, hi]
theorem zero_ref (w : World) : (zeroValue 54).run Tryz.prog w = .ok (.agg (rfC rf0)) w := zero_of (by kernel_rfl) w
theorem part_agg (t n : Nat) (u : TypeDesc) (hu : Tryz.prog.underlying t = some u) (hd : u.isRow = true) (hs : (Tryz.prog.info? t).map (·.size) = some n) (cs ds : Array Value) (o : Nat) (he : cs.extract o (o + n) = ds) (w : World) : (part t cs o).run Tryz.prog w = .ok (.agg ds) w := by
  cases u <;> simp [TypeDesc.isRow] at hd <;> simp [part, isAgg, run_underlying hu, size_at _ _ hs, he]
/-- two references compared -/
theorem eq_ref (d : Nat) (a b : Rf) (w : World) : (Op.equalIn (d + 1 + 1 + 1) 54 (.agg (rfC a)) (.agg (rfC b))).run Tryz.prog w = .ok (decide (a = b)) w := eq_root d a.1 b.1 a.2 b.2 w
/-- texts one behind the other -/
theorem tbyte_append (s t : ByteArray) (j : Nat) : tbyte (s ++ t) j = if j < s.size then tbyte s j else tbyte t (j - s.size) := by
  have hs : s.data.toList.length = s.size := Array.length_toList
  have e : (s ++ t).data.toList = s.data.toList ++ t.data.toList := by
    rw [ByteArray.data_append, Array.toList_append]
  unfold tbyte
  rw [e, List.getD_eq_getElem?_getD]
  by_cases h : j < s.size
  · rw [if_pos h, List.getElem?_append_left (by omega), List.getD_eq_getElem?_getD]
  · rw [if_neg h, List.getElem?_append_right (by omega), List.getD_eq_getElem?_getD, hs]
theorem strN_append (f : Nat → Nat) (a b : Nat) (hf : ∀ j, j < a + b → f j < 256) : strN f a ++ strN (fun j => f (a + j)) b = strN f (a + b) := by
  refine text_ext (by rw [ByteArray.size_append, strN_size, strN_size, strN_size]) fun j hj => ?_
  rw [ByteArray.size_append, strN_size, strN_size] at hj
  rw [tbyte_append, strN_size, strN_at f (a + b) j hj (hf j hj)]
  by_cases h : j < a
  · rw [if_pos h, strN_at f a j h (hf j (by omega))]
  · rw [if_neg h]
    have e : a + (j - a) = j := by omega
    rw [strN_at _ b (j - a) (by omega) (by rw [e]; exact hf j hj), e]
/-- a reference's bytes -/
def encR (r : Rf) : Nat → Nat := fun j => if j < 4 then dig r.1 j else dF r.2 (j - 4)
/-- a digest of bytes -/
def okD (d : Vector Nat 32) : Prop := ∀ i, i < 32 → dF d i < 256
theorem encR_lt (r : Rf) (hr : okD r.2) (j : Nat) (hj : j < 36) : encR r j < 256 := by
  unfold encR
  split
  · exact dig_lt _ _
  · exact hr _ (by omega)
theorem okD_zero : okD (Vector.replicate 32 0) := fun i hi => by
  unfold dF
  simp [hi]
end Go.Proofs.YtcmihdjbeihjbaaGreat

namespace Go.Proofs.YtcmihdjbeihjbaaGreat
open Go Go.RowKit

section
variable {P : Program} {ops : Array Oper} {Q : Exit → Act → World → Prop} {md : Region.Mode} {Wl : List Nat} {S : World → Prop}

theorem takeS_gen {i fuel : Nat} {o : Oper} {v : Value} {listed : Array Bool} {a : Act} {w : World} (hs : Region.noSelect ops = true) (hi : ops[i]? = some o) (hr : (Region.ready md ops listed).contains i = true)
    (hf : Region.free md ops listed i = true) (hWi : Wl.contains i = false) (hwait : waitW md ops listed i Wl (waitArr md ops listed i) = true) (hy : YieldsIf P ops S o v a) (hS : S w)
    (hK : wpAnyW P md ops (Strict Q) S (Wl.contains ·) fuel (listed.setIfInBounds i true) (a.put o.dst v) w) :
    wpAnyW P md ops (Strict Q) S (Wl.contains ·) (fuel + 1) listed a w := by
  generalize hwt : waitArr md ops listed i = arr at hwait
  unfold waitW at hwait
  rw [List.all_eq_true] at hwait
  have hall : ∀ j oj, ops[j]? = some oj → (if arr.getD j false then (j == i || oj.after.any fun e => Region.binds md e && arr.getD e.on false && decide (e.on < ops.size)) && !listed.getD j true else !Wl.contains j) = true := fun j oj hj => by
    have h1 := hwait j (List.mem_range.2 (Array.getElem?_eq_some_iff.1 hj).1)
    rw [hj] at h1; exact h1
  have hin : ∀ j, decide (j < ops.size) = true → ∃ oj, ops[j]? = some oj := fun j hj => ⟨_, Array.getElem?_eq_getElem (of_decide_eq_true hj)⟩
  refine wpAnyW_take hi (Region.noSelect_spec hs) (fun j => arr.getD j false && decide (j < ops.size)) (v := v) (strict_frame _ _) ?_ ?_ hWi fuel listed a w (Region.free_spec hi hf) ?_ (by simpa using hr) hy hS hK
  · intro j oj hj hw hne
    simp only [Bool.and_eq_true] at hw
    have h1 := hall j oj hj
    rw [if_pos hw.1] at h1
    simp only [Bool.and_eq_true, Bool.or_eq_true, beq_iff_eq, hne, false_or] at h1
    obtain ⟨e, he, hb⟩ := Array.any_eq_true'.1 h1.1
    simp only [Bool.and_eq_true] at hb
    exact ⟨e, he, hb.1.1, by simp only [Bool.and_eq_true]; exact ⟨hb.1.2, hb.2⟩⟩
  · intro j oj hj hw
    have hlt : decide (j < ops.size) = true := decide_eq_true (Array.getElem?_eq_some_iff.1 hj).1
    have h1 := hall j oj hj
    cases hq : arr.getD j false with
    | true => rw [hlt]; rfl
    | false => rw [if_neg (by rw [hq]; decide), hw] at h1; cases h1
  · intro j hw
    simp only [Bool.and_eq_true] at hw
    obtain ⟨oj, hj⟩ := hin j hw.2
    have h1 := hall j oj hj
    rw [if_pos hw.1] at h1
    simp only [Bool.and_eq_true, Bool.not_eq_true'] at h1
    exact h1.2

theorem forceS_step {i fuel : Nat} {listed : Array Bool} {a : Act} {w : World} (hb : forceW md ops listed i = true)
    (h : wpOp P ops (Strict Q) i (fun a' w' => (Wl.contains i = false → S w') ∧ wpAnyW P md ops (Strict Q) S (Wl.contains ·) fuel (listed.setIfInBounds i true) a' w') a w) :
    wpAnyW P md ops (Strict Q) S (Wl.contains ·) (fuel + 1) listed a w := by
  unfold forceW at hb
  simp only [Bool.and_eq_true, beq_iff_eq] at hb
  refine ⟨fun h0 => absurd (hb.1.symm.trans h0) (by simp), ?_⟩
  rw [hb.1]
  intro j hj
  have : j = i := by simpa using hj
  subst this; exact h

theorem takeS_step {i fuel : Nat} {listed : Array Bool} {a : Act} {w : World} (hs : Region.noSelect ops = true) (hb : takeW md ops listed Wl [] i = true) (hS : S w)
    (h : wpOp P ops (Strict Q) i (fun a' w' => S w' → wpAnyW P md ops (Strict Q) S (Wl.contains ·) fuel (listed.setIfInBounds i true) a' w') a w) :
    wpAnyW P md ops (Strict Q) S (Wl.contains ·) (fuel + 1) listed a w := by
  unfold takeW at hb
  cases hi : ops[i]? with
  | none => rw [hi] at hb; cases hb
  | some o =>
    rw [hi] at hb
    simp only [Bool.and_eq_true, Bool.or_eq_true, Bool.not_eq_true'] at hb
    obtain ⟨⟨⟨⟨hr, hf⟩, hWi⟩, hk⟩, hwait⟩ := hb
    have key : ∃ v, wpAnyW P md ops (Strict Q) S (Wl.contains ·) fuel (listed.setIfInBounds i true) (a.put o.dst v) w ∧ YieldsIf P ops S o v a := by
      unfold wpOp at h
      simp only [hi] at h
      by_cases hw : Region.wanted o (yielded ops a.tmps) = true
      · simp only [hw, if_true] at h
        rcases h with h | ⟨_, h⟩
        · unfold Oper.wp at h
          have hrun : ∃ v, (execOp a.eval o).run P w = .ok (.value v) w ∧ ∀ w', S w' → (execOp a.eval o).run P w' = .ok (.value v) w' := by
            cases hsr : (execOp a.eval o).run P w with
            | ok n w1 =>
              rcases hk with hk | hk
              · obtain ⟨hp, hv⟩ := kindV_run (P := P) hk a.eval
                obtain ⟨v, rfl⟩ := hv _ _ _ hsr
                obtain ⟨rfl, h2⟩ := hp _ _ _ hsr
                exact ⟨v, rfl, fun w' _ => h2 w'⟩
              · obtain ⟨t, x, hop, hx⟩ := lowLoad_run hk
                cases hx
            | halt y w1 =>
              rw [hsr] at h
              cases y <;> simp only [Oper.upon, Strict] at h <;> first | exact absurd h.1 (by intro e; cases e) | exact h.elim
          obtain ⟨v, h1, h2⟩ := hrun
          rw [h1, Oper.upon_value] at h
          exact ⟨v, h hS, .inl ⟨hw, h2⟩⟩
        · exact absurd h Strict.noOut
      · rw [Bool.not_eq_true] at hw
        simp only [hw, Bool.false_eq_true, if_false] at h
        exact ⟨undef, h hS, .inr ⟨hw, rfl⟩⟩
    obtain ⟨v, hK, hy⟩ := key
    exact takeS_gen hs hi hr hf hWi hwait hy hS hK

theorem takesS_step (hs : Region.noSelect ops = true) (more : List Nat) (fuel : Nat) (Q' : Exit → Act → World → Prop) :
    ∀ (ts : List Nat) (listed l2 : Array Bool) (a : Act) (w : World), takesB md ops Wl [] ts listed = some l2 →
      (∀ a' w', S w' → wpList P ops (Strict Q') (more.filterMap fun i => ops[i]?) a' w' → wpAnyW P md ops (Strict Q) S (Wl.contains ·) fuel l2 a' w') →
      S w → wpList P ops (Strict Q') ((ts ++ more).filterMap fun i => ops[i]?) a w →
      wpAnyW P md ops (Strict Q) S (Wl.contains ·) (ts.length + fuel) listed a w := by
  intro ts
  induction ts with
  | nil =>
    intro listed l2 a w hb hn hS h
    simp only [takesB, Option.some.injEq] at hb
    subst hb
    rw [List.length_nil, Nat.zero_add]
    exact hn a w hS h
  | cons i rest ih =>
    intro listed l2 a w hb hn hS h
    unfold takesB at hb
    split at hb
    · rename_i hc
      have hlen : (i :: rest).length + fuel = (rest.length + fuel) + 1 := by simp only [List.length_cons]; omega
      rw [hlen]
      obtain ⟨o, ho⟩ := has_op hc
      refine takeS_step hs hc hS (wpOp_mono (fun a' w' h' h2 => ?_) (wpOp_strict (wpList_one ho h)))
      exact ih _ l2 a' w' hb hn h2 h'
    · cases hb

theorem tailS_step : ∀ (ts : List Nat) (listed : Array Bool) (a : Act) (w : World), tailB md ops Wl ts listed = true → wpList P ops (Strict Q) (ts.filterMap fun i => ops[i]?) a w →
    wpAnyW P md ops (Strict Q) S (Wl.contains ·) ts.length listed a w
  | [], listed, a, w, hb, h => ⟨by simpa [tailB] using hb, h⟩
  | i :: rest, listed, a, w, hb, h => by
    simp only [tailB, Bool.and_eq_true] at hb
    obtain ⟨o, ho⟩ := has_op' hb.1.1
    refine forceS_step hb.1.1 (wpOp_mono (fun a' w' h' => ?_) (wpList_one ho h))
    exact ⟨fun e => (by rw [hb.1.2] at e; cases e), tailS_step rest _ a' w' hb.2 h'⟩

theorem partsS_step (hs : Region.noSelect ops = true) (takes tail : List Nat) :
    ∀ (ps : List (List Nat × Nat × Bool)) (listed : Array Bool) (a : Act) (w : World), partsB md ops Wl [] ps takes tail listed = true → S w →
      wpPartsI P ops Q S ps (takes ++ tail) a w → wpAnyW P md ops (Strict Q) S (Wl.contains ·) (lenOf ps (takes.length + tail.length)) listed a w
  | [], listed, a, w, hb, hS, h => by
    unfold partsB at hb
    split at hb
    · rename_i l2 hl2
      exact takesS_step hs tail tail.length Q takes listed l2 a w hl2 (fun a' w' _ h' => tailS_step tail l2 a' w' hb h') hS h
    · cases hb
  | (ts, i, false) :: rest, listed, a, w, hb, hS, h => by
    unfold partsB at hb
    split at hb
    · rename_i l2 hl2
      simp only [Bool.and_eq_true, Bool.not_eq_true', Bool.false_eq_true, if_false] at hb
      refine takesS_step hs [i] _ _ ts listed l2 a w hl2 (fun a' w' _ h' => ?_) hS h
      obtain ⟨o, ho⟩ := has_op' hb.1.1
      rw [Nat.add_comm 1]
      refine forceS_step hb.1.1 (wpOp_mono (fun a2 w2 h2 => ?_) (wpOp_strict (wpList_one ho h')))
      have h3 := h2.2
      exact ⟨fun _ => h3.1, partsS_step hs takes tail rest _ a2 w2 hb.2 h3.1 h3.2⟩
    · cases hb
  | (ts, i, true) :: rest, listed, a, w, hb, hS, h => by
    unfold partsB at hb
    split at hb
    · rename_i l2 hl2
      simp only [Bool.and_eq_true, if_true] at hb
      refine takesS_step hs [] _ _ ts listed l2 a w hl2 (fun a' w' hS' h' => ?_) hS h
      obtain ⟨-, o, v, ho, hy, hn⟩ := h'
      have hc := hb.1
      unfold yieldW at hc
      rw [ho] at hc
      simp only [Bool.and_eq_true, Bool.not_eq_true'] at hc
      rw [Nat.add_comm 1]
      exact takeS_gen hs ho hc.1.1.1 hc.1.1.2 hc.1.2 hc.2 hy hS' (partsS_step hs takes tail rest _ _ w' hb.2 hS' hn)
    · cases hb

/-- THE LAW. -/
theorem wp_region_partsS {id : Nat} {a : Act} {w : World} (S : World → Prop) (ps : List (List Nat × Nat × Bool)) (takes tail : List Nat) (hm : P.follows .mixedOrders = true) (hB : wholeB ops tail [] ps takes tail = true)
    (hS : S w.drew) (h : wpPartsI P ops Q S ps (takes ++ tail) a w.drew) : (Code.region id ops true).wp P Q a w := by
  unfold wholeB at hB
  simp only [Bool.and_eq_true, beq_iff_eq] at hB
  refine Code.wp_mono Strict.imp (wp_region_any hm ?_)
  rw [← hB.1.1.1]
  exact wpAny_of_W _ _ _ _ (partsS_step hB.1.1.2 takes tail ps _ a _ (by rw [hB.1.1.1]; exact hB.2) hS h)
end
end Go.Proofs.YtcmihdjbeihjbaaGreat

namespace Go.Proofs.YtcmihdjbeihjbaaGreat
open Go Go.RowKit
set_option linter.unusedSimpArgs false
set_option linter.unusedVariables false

set_option maxRecDepth 100000 in
set_option maxHeartbeats 4000000 in
theorem none_any (r : Rf) (w : World) : Calls Tryz.prog 31 #[.agg (rfC r)] w fun e w' => e = .returned (.bool (decide (r = rf0))) ∧ Below w.heap.size w w' := by
  have r0 : Blk (w.alloc (.cells (rfC r) 54)) w.heap.size 54 (rfC r) := Blk.new _ _ _
  have hb : Below w.heap.size w (w.alloc (.cells (rfC r) 54)) := below_new1 _ _
  have hz := zero_ref
  have hq : ∀ W, (Op.equalIn 10000 54 (.agg (rfC r)) (.agg (rfC rf0))).run Tryz.prog W = .ok (decide (r = rf0)) W := eq_ref 9997 r rf0
  obtain ⟨b, hbd⟩ : ∃ b, b = decide (r = rf0) := ⟨_, rfl⟩
  rw [← hbd] at hq ⊢
  clear hbd
  go_enter Tryz.func31, Tryz.ntmps31
  go_wp2_with (first
    | (refine wpList_load_rowg (by rfl) 54 _ (by rfl) (w.heap.size) (by rfl) 54 (rfC r) (0, 0) _ (by exact r0) Tryz.underlying54 (by rfl) (slSizeRef.trans (by rw [rfC_size])) ?_; simp only [Act.put, List.setIfInBounds_toArray, List.set_cons_zero, List.set_cons_succ])
    | fail)
  go_ret
  exact ⟨rfl, hb⟩
set_option maxRecDepth 100000 in
set_option maxHeartbeats 4000000 in
theorem right_any (r : Rf) (w : World) : Calls Tryz.prog 119 #[.agg (rfC r)] w fun e w' => e = .returned (.bool (rOk r)) ∧ Below w.heap.size w w' := by
  have r0 : Blk (w.alloc (.cells (rfC r) 54)) w.heap.size 54 (rfC r) := Blk.new _ _ _
  have hb : Below w.heap.size w (w.alloc (.cells (rfC r) 54)) := below_new1 _ _
  have hsz : (w.alloc (.cells (rfC r) 54)).heap.size = w.heap.size + 1 := by simp
  have hn : Hid (∀ w, Calls Tryz.prog 31 #[.agg (rfC r)] w fun e w' => e = .returned (.bool (decide (r = rf0))) ∧ Below w.heap.size w w') := none_any r
  have hx : (w.alloc (.cells (rfC r) 54)).cell? ⟨w.heap.size, 0, none⟩ = some (.int .u32 (r.1 : Int)) := by
    rw [r0.cell]
    exact va_at (rfF r.1 r.2) (by decide)
  have HO : Hid (rOk r = (decide (r = rf0) || decide (r.1 ≠ 0))) := rfl
  obtain ⟨b, hbd⟩ : ∃ b, b = decide (r = rf0) := ⟨_, rfl⟩
  obtain ⟨n, hnd⟩ : ∃ n, n = r.1 := ⟨_, rfl⟩
  rw [← hbd] at hn HO
  rw [← hnd] at hx HO
  clear hbd hnd
  go_enter Tryz.func119, Tryz.ntmps119
  go_wp2_with (first
    | (refine wpList_load_rowg (by rfl) 54 _ (by rfl) (w.heap.size) (by rfl) 54 (rfC r) (0, 0) _ (by exact r0) Tryz.underlying54 (by rfl) (slSizeRef.trans (by rw [rfC_size])) ?_; simp only [Act.put, List.setIfInBounds_toArray, List.set_cons_zero, List.set_cons_succ])
    | fail)
  generalize (w.alloc (.cells (rfC r) 54)) = w1 at *
  refine (hn.out w1).mono ?_
  rintro e w2 ⟨rfl, hb2⟩
  have r2 : Blk w2 w.heap.size 54 (rfC r) := r0.below hb2 (by omega)
  have hx2 : w2.cell? ⟨w.heap.size, 0, none⟩ = some (.int .u32 (n : Int)) := by
    rw [← hx, r2.cell, r0.cell]
  have hb3 : Below w.heap.size w w2 := hb.trans (hb2.mono (by omega))
  clear hn hx r0 hb hb2 r2
  cases b
  · go_wp2_with fail
    go_ret
    refine ⟨?_, hb3⟩
    rw [HO.out]
    by_cases h0 : n = 0
    · subst h0
      rfl
    · have : ¬ (n : Int) = 0 := by omega
      simp [h0, this]
  · go_wp2_with fail
    go_ret
    refine ⟨?_, hb3⟩
    rw [HO.out]
    rfl
theorem enc_lo (r : Rf) (hr : okD r.2) : strN (dig r.1) 4 ++ strN (dF r.2) 32 = strN (encR r) 36 := by
  have e := strN_append (encR r) 4 32 fun j hj => encR_lt r hr j hj
  have e1 : strN (encR r) 4 = strN (dig r.1) 4 := strN_congr fun j hj => by
    unfold encR
    rw [if_pos hj]
  have e2 : strN (fun j => encR r (4 + j)) 32 = strN (dF r.2) 32 := strN_congr fun j hj => by
    unfold encR
    rw [if_neg (by omega), show 4 + j - 4 = j by omega]
  rw [e1, e2] at e
  exact e
set_option maxRecDepth 100000 in
set_option maxHeartbeats 4000000 in
theorem encR_any (r : Rf) (hr : okD r.2) (w : World) : Calls Tryz.prog 109 #[.agg (rfC r)] w fun e w' => e = .returned (.string (strN (encR r) 36)) ∧ Below w.heap.size w w' := by
  have r0 : Blk (w.alloc (.cells (rfC r) 54)) w.heap.size 54 (rfC r) := Blk.new _ _ _
  have hb : Below w.heap.size w (w.alloc (.cells (rfC r) 54)) := below_new1 _ _
  have hx : (w.alloc (.cells (rfC r) 54)).cell? ⟨w.heap.size, 0, none⟩ = some (.int .u32 (r.1 : Int)) := by
    rw [r0.cell]
    exact va_at (rfF r.1 r.2) (by decide)
  have hsz : (w.alloc (.cells (rfC r) 54)).heap.size = w.heap.size + 1 := by simp
  go_enter Tryz.func109, Tryz.ntmps109
  go_wp2_with fail
  generalize (w.alloc (.cells (rfC r) 54)) = w1 at *
  refine (bytes32_va r.1 w1).mono ?_
  rintro e w2 ⟨rfl, hb2⟩
  have hs2 := hb2.size
  have r2 : Blk w2 w.heap.size 54 (rfC r) := r0.below hb2 (by omega)
  have hb3 : Below w.heap.size w w2 := hb.trans (hb2.mono (by omega))
  have z4 : (Tryz.prog.info? 240).map (·.size) = some 4 := by kernel_rfl
  clear r0 hb hx hb2
  have r3 : Blk (w2.alloc (.cells (va 4 (iv .u8 fun _ => 0)) 240)) w.heap.size 54 (rfC r) := r2.alloc _
  have q3 : Blk (w2.alloc (.cells (va 4 (iv .u8 fun _ => 0)) 240)) w2.heap.size 240 (va 4 (iv .u8 fun _ => 0)) := Blk.new _ _ _
  have hb4 : Below w.heap.size w (w2.alloc (.cells (va 4 (iv .u8 fun _ => 0)) 240)) := hb3.alloc (by omega) _
  have hz : ∀ w, (zeroValue 240).run Tryz.prog w = .ok (.agg (va 4 (iv .u8 fun _ => 0))) w := zero_of (by kernel_rfl)
  go_wp2_with (first
    | (refine wpList_store_row (by rfl) 240 _ _ (by rfl) (w2.heap.size) (va 4 (iv .u8 (dig r.1))) (by rfl) (by rfl) 240 (va 4 (iv .u8 fun _ => 0)) (by exact q3) (z4.trans (by rw [va_size])) (by simp only [va_size]) (iv_one _ _ _) ?_; simp only [Act.put, List.setIfInBounds_toArray, List.set_cons_zero, List.set_cons_succ])
    | fail)
  have r5 : Blk ((w2.alloc (.cells (va 4 (iv .u8 fun _ => 0)) 240)).setRow w2.heap.size (va 4 (iv .u8 (dig r.1)))) w.heap.size 54 (va 33 (rfF r.1 r.2)) := r3.other _ (by omega)
  have q5 : Blk ((w2.alloc (.cells (va 4 (iv .u8 fun _ => 0)) 240)).setRow w2.heap.size (va 4 (iv .u8 (dig r.1)))) w2.heap.size 240 (va 4 (iv .u8 (dig r.1))) := q3.set _
  have hb5 : Below w.heap.size w ((w2.alloc (.cells (va 4 (iv .u8 fun _ => 0)) 240)).setRow w2.heap.size (va 4 (iv .u8 (dig r.1)))) := below_setRow hb4 (by omega) _
  clear r3 q3 hb4 r2 hb3
  generalize ((w2.alloc (.cells (va 4 (iv .u8 fun _ => 0)) 240)).setRow w2.heap.size (va 4 (iv .u8 (dig r.1)))) = w5 at *
  have hc1 : ∀ W, Blk W w2.heap.size 240 (va 4 (iv .u8 (dig r.1))) → (convert 142 9 (.slice (some ⟨w2.heap.size, 0, none⟩) 4 4)).run Tryz.prog W = .ok (.string (strN (dig r.1) 4)) W := fun W hW => by
    have := run_bytes_text (P := Tryz.prog) W 142 5 9 Tryz.underlying142 Tryz.underlying5 Tryz.underlying9 hW 0 4 4 (by omega)
    rwa [show (fun j => dig r.1 (0 + j)) = dig r.1 by funext j; rw [Nat.zero_add]] at this
  have hc2 : ∀ W, Blk W w.heap.size 54 (va 33 (rfF r.1 r.2)) → (convert 142 9 (.slice (some ⟨w.heap.size, 1, none⟩) 32 32)).run Tryz.prog W = .ok (.string (strN (dF r.2) 32)) W := fun W hW => by
    exact run_convert_bytes_arg W 142 5 Tryz.underlying142 Tryz.underlying5 w.heap.size 1 32 32 _ (by simp) (fun i hi => by
      rw [hW.cv (i := 1 + i) (by omega)]
      unfold rfF
      rw [if_neg (by omega), show 1 + i - 1 = i by omega]
      simp [List.getD_eq_getElem?_getD, hi]) 9 Tryz.underlying9
  have h1 := hc1 w5.drew q5.drew
  have h2 := hc2 w5.drew r5.drew
  have he := enc_lo r hr
  have z1 : (strN (dig r.1) 4).size = 4 := strN_size _ _
  have z2 : (strN (dF r.2) 32).size = 32 := strN_size _ _
  generalize strN (dig r.1) 4 = t1 at *
  generalize strN (dF r.2) 32 = t2 at *
  clear hc1 hc2 q5 r5
  refine wp_region_partsS (fun W => W = w5.drew) [([], 0, true), ([], 1, true), ([], 2, false), ([], 3, false), ([], 4, false), ([], 5, false)] [] [6] (by kernel_rfl) (by kernel_rfl) rfl (partsI_yield ?_)
  simp only [List.cons_append, List.nil_append, List.append_nil, List.filterMap_cons, List.filterMap_nil, List.getElem?_toArray, List.getElem?_cons_zero, List.getElem?_cons_succ]
  go_wp2_with fail
  refine ⟨rfl, _, .slice (some ⟨w2.heap.size, 0, none⟩) 4 4, rfl, Or.inl ⟨by rfl, fun W hW => by go_simp⟩, partsI_yield ?_⟩
  simp only [Act.put, List.setIfInBounds_toArray, List.set_cons_zero, List.set_cons_succ]
  simp only [List.cons_append, List.nil_append, List.append_nil, List.filterMap_cons, List.filterMap_nil, List.getElem?_toArray, List.getElem?_cons_zero, List.getElem?_cons_succ]
  go_wp2_with fail
  refine ⟨rfl, _, .string t1, rfl, Or.inl ⟨by rfl, fun W hW => by rw [hW]; go_simp⟩, partsI_force ?_⟩
  simp only [Act.put, List.setIfInBounds_toArray, List.set_cons_zero, List.set_cons_succ]
  simp only [List.cons_append, List.nil_append, List.append_nil, List.filterMap_cons, List.filterMap_nil, List.getElem?_toArray, List.getElem?_cons_zero, List.getElem?_cons_succ]
  go_wp2_with fail
  refine ⟨rfl, rfl, partsI_force ?_⟩
  simp only [List.cons_append, List.nil_append, List.append_nil, List.filterMap_cons, List.filterMap_nil, List.getElem?_toArray, List.getElem?_cons_zero, List.getElem?_cons_succ]
  go_wp2_with fail
  refine ⟨rfl, rfl, partsI_force ?_⟩
  simp only [List.cons_append, List.nil_append, List.append_nil, List.filterMap_cons, List.filterMap_nil, List.getElem?_toArray, List.getElem?_cons_zero, List.getElem?_cons_succ]
  go_wp2_with fail
  refine ⟨rfl, rfl, partsI_force ?_⟩
  simp only [List.cons_append, List.nil_append, List.append_nil, List.filterMap_cons, List.filterMap_nil, List.getElem?_toArray, List.getElem?_cons_zero, List.getElem?_cons_succ]
  go_wp2_with fail
  refine ⟨rfl, rfl, partsI_last ?_⟩
  simp only [List.cons_append, List.nil_append, List.append_nil, List.filterMap_cons, List.filterMap_nil, List.getElem?_toArray, List.getElem?_cons_zero, List.getElem?_cons_succ]
  go_wp2_with fail
  refine ⟨rfl, ?_⟩
  go_wp2_with fail
  go_ret
  exact ⟨rfl, hb5.drew⟩
/-- the reference that stands in a text -/
def decR (s : ByteArray) (a : Nat) : Rf := (at4 s a, sumD fun i => tbyte s (a + 4 + i))
theorem decR_cells (n : Nat) (f : Nat → Nat) : (splice ((rfC rf0).setIfInBounds 0 (.int .u32 (n : Int))).toList 1 (byL f 32)).toArray = rfC (n, sumD f) := by
  unfold rfC
  rw [va_set, va_toList]
  refine Eq.trans (by rfl) ((splice_va 33 1 32 _ (fun j => Value.int .u8 ((f j : Nat) : Int)) (by decide)).trans ?_)
  refine va_congr fun i hi => ?_
  by_cases h2 : 1 ≤ i ∧ i < 1 + 32
  · have e1 : rfF (n, sumD f).1 (n, sumD f).2 i = .int .u8 ((f (i - 1) : Nat) : Int) := by
      unfold rfF
      rw [if_neg (by omega), show dF (n, sumD f).2 (i - 1) = f (i - 1) from dF_sumD f _ (by omega)]
    rw [e1]
    unfold overF
    rw [if_pos h2]
  · unfold overF upd
    rw [if_neg h2]
    have h0 : i = 0 := by omega
    subst h0
    rfl
set_option maxRecDepth 100000 in
set_option maxHeartbeats 4000000 in
theorem decodeR_good (s : ByteArray) (a : Nat) (hs : s.size ≤ maxLen) (h : a + 36 ≤ s.size) (w : World) : Calls Tryz.prog 105 #[.string s, .int .i64 (a : Int)] w fun e w' => e = .returned (.tuple #[.agg (rfC (if rOk (decR s a) then decR s a else rf0)), .bool (rOk (decR s a))]) ∧ Below w.heap.size w w' := by
  have hT : Hid (∀ w : World, Calls Tryz.prog 118 #[.string s, .int .i64 (a : Int)] w fun e w' => e = .returned (.tuple #[.int .u32 (at4 s a : Int), .bool true]) ∧ Below w.heap.size w w') := fun w => take32_yes s a hs (by omega) w
  unfold maxLen at hs
  have hz := zero_ref
  have r0 : Blk ((w.alloc (.cells (rfC rf0) 54)).alloc (.cells (rfC rf0) 54)) w.heap.size 54 (rfC rf0) := (Blk.new _ _ _).alloc _
  have r1 : Blk ((w.alloc (.cells (rfC rf0) 54)).alloc (.cells (rfC rf0) 54)) (w.heap.size + 1) 54 (rfC rf0) := Blk.new1 _ _ _ _
  have hb : Below w.heap.size w ((w.alloc (.cells (rfC rf0) 54)).alloc (.cells (rfC rf0) 54)) := below_new2 _ _ _
  have hsz : ((w.alloc (.cells (rfC rf0) 54)).alloc (.cells (rfC rf0) 54)).heap.size = w.heap.size + 2 := by simp
  have HDC : Hid ((splice ((rfC rf0).setIfInBounds 0 (.int .u32 ((at4 s a : Nat) : Int))).toList 1 (byL (tbyte (s.extract (a + 4) s.size)) 32)).toArray = rfC (decR s a)) := by
    rw [byL_congr (f := tbyte (s.extract (a + 4) s.size)) (g := fun i => tbyte s (a + 4 + i)) fun i hi => tbyte_extract s (a + 4) s.size i (Nat.le_refl _) (by omega)]
    exact decR_cells _ _
  have HS : (s.extract (a + 4) s.size).size = s.size - (a + 4) := extract_size s (a + 4) s.size (Nat.le_refl _)
  obtain ⟨X, hX⟩ : ∃ X, X = decR s a := ⟨_, rfl⟩
  obtain ⟨n4, hn4⟩ : ∃ n4, n4 = at4 s a := ⟨_, rfl⟩
  rw [← hX] at HDC
  rw [← hX]
  rw [← hn4] at HDC hT
  clear hX hn4
  have HR : Hid (∀ w, Calls Tryz.prog 119 #[.agg (rfC X)] w fun e w' => e = .returned (.bool (rOk X)) ∧ Below w.heap.size w w') := right_any X
  generalize rOk X = b at *
  go_enter Tryz.func105, Tryz.ntmps105
  go_wp2_with fail
  generalize ((w.alloc (.cells (rfC rf0) 54)).alloc (.cells (rfC rf0) 54)) = w0 at *
  refine (hT.out w0).mono ?_
  rintro e w1 ⟨rfl, hb1⟩
  have hs1 := hb1.size
  have r0' : Blk w1 w.heap.size 54 (rfC rf0) := r0.below hb1 (by omega)
  have r1' : Blk w1 (w.heap.size + 1) 54 (rfC rf0) := r1.below hb1 (by omega)
  have hb' : Below w.heap.size w w1 := hb.trans (hb1.mono (by omega))
  have f1 : w1.frozen? ⟨w.heap.size + 1, 0, none⟩ = false := r1'.frozen 0
  have d1 : w1.cell? ⟨w.heap.size + 1, 0, none⟩ = some (.int .u32 0) := by
    rw [r1'.cell]
    exact va_at (rfF rf0.1 rf0.2) (by decide)
  clear r0 r1 hb hb1 hT
  go_wp2_with fail
  have r2 : Blk (w1.setCell ⟨w.heap.size + 1, 0, none⟩ (.int .u32 (n4 : Int))) (w.heap.size + 1) 54 ((rfC rf0).setIfInBounds 0 (.int .u32 (n4 : Int))) := r1'.put 0 _
  have q2 : Blk (w1.setCell ⟨w.heap.size + 1, 0, none⟩ (.int .u32 (n4 : Int))) w.heap.size 54 (rfC rf0) := r0'.put_other _ _ (by omega)
  have hb2 : Below w.heap.size w (w1.setCell ⟨w.heap.size + 1, 0, none⟩ (.int .u32 (n4 : Int))) := hb'.setCell (by show w.heap.size ≤ w.heap.size + 1; omega) _
  have hs2 : (w1.setCell ⟨w.heap.size + 1, 0, none⟩ (.int .u32 (n4 : Int))).heap.size = w1.heap.size := World.size_setCell _ _ _
  clear r1' r0' hb' f1 d1
  generalize (w1.setCell ⟨w.heap.size + 1, 0, none⟩ (.int .u32 (n4 : Int))) = w2 at *
  have z1 : (a : Int) + 4 ≤ (s.size : Int) := by omega
  refine wp_region_partsS (fun _ => True) [([2, 3], 0, true), ([], 1, true), ([], 4, false), ([], 5, false)] [] [6] (by kernel_rfl) (by kernel_rfl) trivial (partsI_yield ?_)
  simp only [List.cons_append, List.nil_append, List.append_nil, List.filterMap_cons, List.filterMap_nil, List.getElem?_toArray, List.getElem?_cons_zero, List.getElem?_cons_succ]
  go_wp2_with fail
  refine ⟨rfl, _, .pointer (some ⟨w.heap.size + 1, 1, none⟩), rfl, Or.inl ⟨by rfl, fun W hW => by go_simp⟩, partsI_yield ?_⟩
  simp only [Act.put, List.setIfInBounds_toArray, List.set_cons_zero, List.set_cons_succ]
  simp only [List.cons_append, List.nil_append, List.append_nil, List.filterMap_cons, List.filterMap_nil, List.getElem?_toArray, List.getElem?_cons_zero, List.getElem?_cons_succ]
  go_wp2_with fail
  refine ⟨rfl, _, .slice (some ⟨w.heap.size + 1, 1, none⟩) 32 32, rfl, Or.inl ⟨by rfl, fun W hW => by go_simp⟩, partsI_force ?_⟩
  simp only [Act.put, List.setIfInBounds_toArray, List.set_cons_zero, List.set_cons_succ]
  simp only [List.cons_append, List.nil_append, List.append_nil, List.filterMap_cons, List.filterMap_nil, List.getElem?_toArray, List.getElem?_cons_zero, List.getElem?_cons_succ]
  go_wp2_with fail
  refine ⟨rfl, trivial, partsI_force ?_⟩
  simp only [List.cons_append, List.nil_append, List.append_nil, List.filterMap_cons, List.filterMap_nil, List.getElem?_toArray, List.getElem?_cons_zero, List.getElem?_cons_succ]
  go_wp2_with fail
  refine ⟨rfl, trivial, partsI_last ?_⟩
  simp only [List.cons_append, List.nil_append, List.append_nil, List.filterMap_cons, List.filterMap_nil, List.getElem?_toArray, List.getElem?_cons_zero, List.getElem?_cons_succ]
  refine wpList_copy_text rfl _ _ 142 9 rfl 5 Tryz.underlying142 ksizeU8 (w.heap.size + 1) 1 32 32 (s.extract (a + 4) s.size) rfl rfl ((rfC rf0).setIfInBounds 0 (.int .u32 (n4 : Int))) 54 r2.drew 32 (by rw [HS]; show 32 = min (s.size - (a + 4)) 32; omega) (by rw [Array.size_setIfInBounds, rfC_size]; omega) ?_
  rw [HDC.out]
  simp only [Act.put, List.setIfInBounds_toArray, List.set_cons_zero, List.set_cons_succ]
  go_wp2_with fail
  refine ⟨rfl, ?_⟩
  have r4 : Blk (w2.drew.setRow (w.heap.size + 1) (rfC X)) (w.heap.size + 1) 54 (rfC X) := r2.drew.set _
  have q4 : Blk (w2.drew.setRow (w.heap.size + 1) (rfC X)) w.heap.size 54 (rfC rf0) := q2.drew.other _ (by omega)
  have hb4 : Below w.heap.size w (w2.drew.setRow (w.heap.size + 1) (rfC X)) := below_setRow hb2.drew (by omega) _
  have hs4 : (w2.drew.setRow (w.heap.size + 1) (rfC X)).heap.size = w2.heap.size := by simp
  clear HDC r2 q2 hb2 HS
  generalize (w2.drew.setRow (w.heap.size + 1) (rfC X)) = w4 at *
  go_wp2_with (first
    | (refine wpList_load_rowg (by rfl) 54 _ (by rfl) (w.heap.size + 1) (by rfl) 54 (rfC X) (0, 0) _ (by exact r4) Tryz.underlying54 (by rfl) (slSizeRef.trans (by rw [rfC_size])) ?_; simp only [Act.put, List.setIfInBounds_toArray, List.set_cons_zero, List.set_cons_succ])
    | fail)
  refine (HR.out w4).mono ?_
  rintro e w5 ⟨rfl, hb5⟩
  have r5 : Blk w5 (w.heap.size + 1) 54 (rfC X) := r4.below hb5 (by omega)
  have q5 : Blk w5 w.heap.size 54 (rfC rf0) := q4.below hb5 (by omega)
  have hb6 : Below w.heap.size w w5 := hb4.trans (hb5.mono (by omega))
  clear r4 q4 hb4 hb5 hs4
  cases b
  · go_wp2_with (first
      | (refine wpList_store_row (by rfl) 54 _ _ (by rfl) (w.heap.size) (rfC rf0) (by rfl) (by rfl) 54 (_) (by exact q5) (slSizeRef.trans (by rw [rfC_size])) (by simp only [rfC_size]) (rfC_all _) ?_; simp only [Act.put, List.setIfInBounds_toArray, List.set_cons_zero, List.set_cons_succ])
      | fail)
    try simp only [Exit.inBlock, Exit.then]
    refine bodyPost_ret (results_row2 Tryz.results105 _ _ (w.heap.size) 54 (rfC rf0) (0, 0) _ rfl (q5.set _) Tryz.underlying54 rfl (slSizeRef.trans (by rw [rfC_size]))) rfl ?_
    exact ⟨rfl, below_setRow hb6 (Nat.le_refl _) _⟩
  · go_wp2_with (first
      | (refine wpList_load_rowg (by rfl) 54 _ (by rfl) (w.heap.size + 1) (by rfl) 54 (rfC X) (0, 0) _ (by exact r5) Tryz.underlying54 (by rfl) (slSizeRef.trans (by rw [rfC_size])) ?_; simp only [Act.put, List.setIfInBounds_toArray, List.set_cons_zero, List.set_cons_succ])
      | (refine wpList_store_row (by rfl) 54 _ _ (by rfl) (w.heap.size) (rfC X) (by rfl) (by rfl) 54 (_) (by exact q5) (slSizeRef.trans (by rw [rfC_size])) (by simp only [rfC_size]) (rfC_all _) ?_; simp only [Act.put, List.setIfInBounds_toArray, List.set_cons_zero, List.set_cons_succ])
      | fail)
    try simp only [Exit.inBlock, Exit.then]
    refine bodyPost_ret (results_row2 Tryz.results105 _ _ (w.heap.size) 54 (rfC X) (0, 0) _ rfl (q5.set _) Tryz.underlying54 rfl (slSizeRef.trans (by rw [rfC_size]))) rfl ?_
    exact ⟨rfl, below_setRow hb6 (Nat.le_refl _) _⟩
end Go.Proofs.YtcmihdjbeihjbaaGreat

namespace Go.Proofs.YtcmihdjbeihjbaaGreat
open Go Go.RowKit
set_option linter.unusedSimpArgs false
set_option linter.unusedVariables false
/-- an inode: kind, links, size, stamp, the height and root of its tree -/
structure Ino where
  k : Int
  l : Int
  s : Int
  t : Nat
  h : Int
  r : Rf
  deriving DecidableEq
def in0 : Ino := ⟨0, 0, 0, 0, 0, rf0⟩
def tiF (h : Int) (r : Rf) : Nat → Value := fun i => if i = 0 then .int .i64 h else rfF r.1 r.2 (i - 1)
def tiC (h : Int) (r : Rf) : Array Value := va 34 (tiF h r)
def inF (x : Ino) : Nat → Value := fun i => if i = 0 then .int .i64 x.k else if i = 1 then .int .i64 x.l else if i = 2 then .int .i64 x.s else if i = 3 then .int .u64 ((x.t : Nat) : Int) else tiF x.h x.r (i - 4)
theorem tiF_one (h : Int) (r : Rf) (i : Nat) : (tiF h r i).oneCell' = true := by
  unfold tiF
  split
  · rfl
  · exact rfF_one _ _ _
theorem inF_one (x : Ino) (i : Nat) : (inF x i).oneCell' = true := by
  unfold inF
  split
  · rfl
  · split
    · rfl
    · split
      · rfl
      · split
        · rfl
        · exact tiF_one _ _ _
end Go.Proofs.YtcmihdjbeihjbaaGreat
