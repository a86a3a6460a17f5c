/- An entry put into a list of entries, by the document: its contract. -/
import Derived.Test.YtdhbjcnbdfidcaaHBlkOwn
import Derived.Handy
import Derived.OwnWalk
import Derived.Maps.AppendAt
import Derived.OpenShut
import Derived.Test.YtdhbjcnbdfidcaaHDigHSum
import Derived.Deep.MidRow
import Derived.Test.YtdhbjcnbdfidcaaHDigBytes
import Derived.Deep.RegionLaw
import Derived.Laws.CopyOwn
import Derived.WalkSmall
import Derived.Deep.Heap
import Derived.Shelf.SlMaps.Clone

namespace Go.Proofs.Ytdhbjcnbdfidcaa
open Go Go.RowKit
set_option linter.unusedSimpArgs false
set_option linter.unusedVariables false

/-- a slot, as a plain thing: the counter, the root's number, its digest -/
abbrev Sl := Nat × Nat × Vector Nat 32
def slF (s : Sl) : Nat → Value := fun i => if i = 0 then .int .u64 ((s.1 : Nat) : Int) else if i = 1 then .int .u32 ((s.2.1 : Nat) : Int) else .int .u8 ((dF s.2.2 (i - 2) : Nat) : Int)
def slC (s : Sl) : Array Value := va 34 (slF s)
def slV (s : Sl) : Value := .agg (slC s)
def sumD (f : Nat → Nat) : Vector Nat 32 := Vector.ofFn fun i : Fin 32 => f i.1
theorem dF_sumD (f : Nat → Nat) (i : Nat) (hi : i < 32) : dF (sumD f) i = f i := by
  unfold dF sumD
  simp [hi]
theorem dK_sumD (f : Nat → Nat) : dK (sumD f) = .agg (va 32 (iv .u8 f)) := by
  unfold dK
  rw [va_congr (f := iv .u8 (dF (sumD f))) (g := iv .u8 f) fun i hi => by unfold iv; rw [dF_sumD f i hi]]
def sl0 : Sl := (0, 0, Vector.replicate 32 0)
theorem slC_size (s : Sl) : (slC s).size = 34 := va_size _ _
theorem slC_one (s : Sl) : ∀ u ∈ (slC s).toList, u.oneCell' = true := fun u hu => by
  unfold slC at hu
  rw [va_toList] at hu
  obtain ⟨i, _, rfl⟩ := List.mem_map.1 hu
  unfold slF
  split
  · rfl
  · split <;> rfl
theorem slC_all (s : Sl) : (slC s).all (·.oneCell') = true := va_one fun i _ => by
  unfold slF
  split
  · rfl
  · split <;> rfl
theorem va_extract (n o m : Nat) (f : Nat → Value) (h : o + m ≤ n) : (va n f).extract o (o + m) = va m fun i => f (o + i) := by
  refine va_ext (by rw [Array.size_extract, va_size]; omega) fun i hi => ?_
  rw [Array.getElem?_extract, va_size]
  rw [if_pos (by omega)]
  exact va_at f (by omega)
theorem slot_root (s : Sl) : (fun i => slF s (1 + i)) = fun i => if i = 0 then .int .u32 ((s.2.1 : Nat) : Int) else .int .u8 ((dF s.2.2 (i - 1) : Nat) : Int) := by
  funext i
  unfold slF
  rw [if_neg (by omega)]
  by_cases h : i = 0
  · subst h
    rfl
  · rw [if_neg (by omega), if_neg h, show 1 + i - 2 = i - 1 by omega]
def rfF (a : Nat) (d : Vector Nat 32) : Nat → Value := fun i => if i = 0 then .int .u32 ((a : Nat) : Int) else .int .u8 ((dF d (i - 1) : Nat) : Int)
theorem rf_sum (a : Nat) (d : Vector Nat 32) : (va 32 fun i => rfF a d (1 + i)) = va 32 (iv .u8 (dF d)) := va_congr fun i _ => by
  unfold rfF iv
  rw [if_neg (by omega), show 1 + i - 1 = i by omega]
theorem sl_sum (s : Sl) : (va 32 fun i => slF s (2 + i)) = va 32 (iv .u8 (dF s.2.2)) := va_congr fun i _ => by
  unfold slF iv
  rw [if_neg (by omega), if_neg (by omega), show 2 + i - 2 = i by omega]
theorem size_at (t n : Nat) (h : (Try.prog.info? t).map (·.size) = some n) (w : World) : (sizeOf t).run Try.prog w = .ok n w := by
  cases hq : Try.prog.info? t with
  | none => simp [hq] at h
  | some i =>
    have hi : i.size = n := by simpa [hq] using h
    simp [sizeOf, typeInfo, hq, hi]
theorem sizeSlot : (Try.prog.info? 50).map (·.size) = some 34 := by kernel_rfl
theorem slSizeRef : (Try.prog.info? 48).map (·.size) = some 33 := by kernel_rfl
theorem sizeSm : (Try.prog.info? 44).map (·.size) = some 32 := by kernel_rfl
theorem part_root (s : Sl) (w : World) : (part 48 (slC s) 1).run Try.prog w = .ok (.agg (va 33 (rfF s.2.1 s.2.2))) w := by
  have e : (slC s).extract 1 (1 + 33) = va 33 (rfF s.2.1 s.2.2) := by
    unfold slC
    rw [va_extract 34 1 33 _ (by decide), slot_root]
    rfl
  simp [part, isAgg, run_underlying Try.underlying48, size_at _ _ slSizeRef]
  exact e
theorem part_sum (a : Nat) (d : Vector Nat 32) (w : World) : (part 44 (va 33 (rfF a d)) 1).run Try.prog w = .ok (dK d) w := by
  have e : (va 33 (rfF a d)).extract 1 (1 + 32) = va 32 (iv .u8 (dF d)) := by
    rw [va_extract 33 1 32 _ (by decide), rf_sum]
  simp [part, isAgg, run_underlying Try.underlying44, size_at _ _ sizeSm]
  unfold dK
  rw [← e]
theorem part_int (t : TypeId) (k : IntKind) (h : Try.prog.underlying t = some (.int k)) (cs : Array Value) (o : Nat) (v : Value) (hv : cs[o]? = some v) (w : World) : (part t cs o).run Try.prog w = .ok v w := by
  simp [part, isAgg, run_underlying h, hv]
set_option maxRecDepth 100000 in
theorem eq_digAt (d : Nat) (t : TypeId) (ht : Try.prog.underlying t = some (.array 32 5)) (a b : Vector Nat 32) (w : World) : (Op.equalIn (d + 1 + 1) t (dK a) (dK b)).run Try.prog w = .ok (decide (a = b)) w := by
  obtain ⟨i, hi⟩ : ∃ i, Try.prog.info? 5 = some i := Option.isSome_iff_exists.1 (by kernel_rfl)
  have hc : Try.prog.cellsOf 5 = 1 := by kernel_rfl
  unfold dK
  rw [run_equalIn_array w (d + 1) (va 32 (iv .u8 (dF a))) (va 32 (iv .u8 (dF b))) ht hi, hc,
    run_items d Try.underlying5 (fun i => ((dF a i : Nat) : Int)) (fun i => ((dF b i : Nat) : Int)) (va 32 (iv .u8 (dF a))) (va 32 (iv .u8 (dF b))) _ (fun i hi => ⟨va_at (iv .u8 (dF a)) (by simpa using hi), va_at (iv .u8 (dF b)) (by simpa using hi)⟩)]
  congr 1
  rw [Bool.eq_iff_iff, List.all_eq_true, decide_eq_true_eq]
  constructor
  · intro h
    refine dF_inj fun i hi => ?_
    have := h i (by simpa using hi)
    simp only [beq_iff_eq] at this
    omega
  · rintro rfl i _
    simp
/-- two structs of two fields compared -/
theorem run_eq_two {P : Program} {w : World} {d : Nat} {t t1 t2 o1 o2 : Nat} {cs ds : Array Value} {x1 y1 x2 y2 : Value} {b1 b2 : Bool} (hu : P.underlying t = some (.struct (P.fieldsOf t))) (hp : P.stoodInHeld t = false)
    (hf : (P.fieldsOf t).toList.map (fun f => (f.name == "_", f.type, f.offset)) = [(false, t1, o1), (false, t2, o2)])
    (p1 : (part t1 cs o1).run P w = .ok x1 w) (q1 : (part t1 ds o1).run P w = .ok y1 w) (p2 : (part t2 cs o2).run P w = .ok x2 w) (q2 : (part t2 ds o2).run P w = .ok y2 w)
    (h1 : (Op.equalIn d t1 x1 y1).run P w = .ok b1 w) (h2 : (Op.equalIn d t2 x2 y2).run P w = .ok b2 w) : (Op.equalIn (d + 1) t (.agg cs) (.agg ds)).run P w = .ok (b1 && b2) w := by
  rw [run_equalIn_struct w d t cs ds hu hp]
  obtain ⟨f, l1, e1, hf1, hl1⟩ := List.map_eq_cons_iff.1 hf
  obtain ⟨g, l2, e2, hg1, hl2⟩ := List.map_eq_cons_iff.1 hl1
  have e3 := List.map_eq_nil_iff.1 hl2
  subst e3 e2
  rw [e1]
  simp only [Prod.mk.injEq] at hf1 hg1
  obtain ⟨n1, rfl, rfl⟩ := hf1
  obtain ⟨n2, rfl, rfl⟩ := hg1
  have n1' : f.name ≠ "_" := by simpa using n1
  have n2' : g.name ≠ "_" := by simpa using n2
  unfold Op.eqFields
  rw [if_pos n1']
  unfold Op.eqFields
  rw [if_pos n2']
  simp only [Sem.run_bind, p1, q1, Result.andThen_ok, h1]
  cases b1
  · simp
  · simp only [Bool.not_true, Bool.false_eq_true, if_false, Sem.run_bind, p2, q2, Result.andThen_ok, h2]
    cases b2
    · simp
    · simp [Op.eqFields]
theorem eq_root (d : Nat) (a b : Nat) (x y : Vector Nat 32) (w : World) : (Op.equalIn (d + 1 + 1 + 1) 48 (.agg (va 33 (rfF a x))) (.agg (va 33 (rfF b y)))).run Try.prog w = .ok (decide ((a, x) = (b, y))) w := by
  have h1 : (Op.equalIn (d + 1 + 1) 32 (.int .u32 (a : Int)) (.int .u32 (b : Int))).run Try.prog w = .ok ((a : Int) == (b : Int)) w := by simp [Op.equalIn, run_underlying Try.underlying32]
  have h2 := eq_digAt d 44 Try.underlying44 x y w
  have hd : decide ((a, x) = (b, y)) = (((a : Int) == (b : Int)) && decide (x = y)) := by
    rw [Bool.eq_iff_iff]
    simp only [decide_eq_true_eq, Bool.and_eq_true, beq_iff_eq, Prod.mk.injEq]
    constructor
    · rintro ⟨h, k⟩
      exact ⟨by omega, k⟩
    · rintro ⟨h, k⟩
      exact ⟨by omega, k⟩
  rw [hd]
  have p1 : (part 32 (va 33 (rfF a x)) 0).run Try.prog w = .ok (.int .u32 ((a : Nat) : Int)) w := part_int _ _ Try.underlying32 _ _ _ (va_at (rfF a x) (by decide)) w
  have q1 : (part 32 (va 33 (rfF b y)) 0).run Try.prog w = .ok (.int .u32 ((b : Nat) : Int)) w := part_int _ _ Try.underlying32 _ _ _ (va_at (rfF b y) (by decide)) w
  have p2 := part_sum a x w
  have q2 := part_sum b y w
  generalize va 33 (rfF a x) = cs at *
  generalize va 33 (rfF b y) = ds at *
  have hu : Try.prog.underlying 48 = some (.struct (Try.prog.fieldsOf 48)) := by kernel_rfl
  have hp : Try.prog.stoodInHeld 48 = false := by kernel_rfl
  have hf : (Try.prog.fieldsOf 48).toList.map (fun f => (f.name == "_", f.type, f.offset)) = [(false, 32, 0), (false, 44, 1)] := by kernel_rfl
  exact run_eq_two hu hp hf p1 q1 p2 q2 h1 h2
theorem part_counter (s : Sl) (w : World) : (part 31 (slC s) 0).run Try.prog w = .ok (.int .u64 ((s.1 : Nat) : Int)) w := part_int _ _ Try.underlying31 _ _ _ (va_at (slF s) (by decide)) w
theorem eq_slotAt (d : Nat) (a b : Sl) (w : World) : (Op.equalIn (d + 1 + 1 + 1 + 1) 50 (slV a) (slV b)).run Try.prog w = .ok (decide (a = b)) w := by
  have h1 : (Op.equalIn (d + 1 + 1 + 1) 31 (.int .u64 (a.1 : Int)) (.int .u64 (b.1 : Int))).run Try.prog w = .ok ((a.1 : Int) == (b.1 : Int)) w := by simp [Op.equalIn, run_underlying Try.underlying31]
  have h2 := eq_root d a.2.1 b.2.1 a.2.2 b.2.2 w
  have hd : decide (a = b) = (((a.1 : Int) == (b.1 : Int)) && decide ((a.2.1, a.2.2) = (b.2.1, b.2.2))) := by
    obtain ⟨a1, a2, a3⟩ := a
    obtain ⟨b1, b2, b3⟩ := b
    rw [Bool.eq_iff_iff]
    simp only [decide_eq_true_eq, Bool.and_eq_true, beq_iff_eq, Prod.mk.injEq]
    constructor
    · rintro ⟨h, k⟩
      exact ⟨by omega, k⟩
    · rintro ⟨h, k⟩
      exact ⟨by omega, k⟩
  rw [hd]
  have p1 := part_counter a w
  have q1 := part_counter b w
  have p2 := part_root a w
  have q2 := part_root b w
  unfold slV
  generalize slC a = cs at *
  generalize slC b = ds at *
  generalize va 33 (rfF a.2.1 a.2.2) = vx at *
  generalize va 33 (rfF b.2.1 b.2.2) = vy at *
  have hu : Try.prog.underlying 50 = some (.struct (Try.prog.fieldsOf 50)) := by kernel_rfl
  have hp : Try.prog.stoodInHeld 50 = false := by kernel_rfl
  have hf : (Try.prog.fieldsOf 50).toList.map (fun f => (f.name == "_", f.type, f.offset)) = [(false, 31, 0), (false, 48, 1)] := by kernel_rfl
  exact run_eq_two hu hp hf p1 q1 p2 q2 h1 h2
theorem eq_slot (a b : Sl) (w : World) : (Op.equalIn 10000 50 (slV a) (slV b)).run Try.prog w = .ok (decide (a = b)) w := eq_slotAt 9996 a b w
theorem chk_slot (d : Nat) (e : Bool) (a : Sl) (w : World) : (Instr.checkKey e (d + 1 + 1 + 1 + 1) 50 (slV a)).run Try.prog w = .ok () w := by
  have h1 : ∀ x : Int, (Instr.checkKey e (d + 1 + 1 + 1) 31 (.int .u64 x)).run Try.prog w = .ok () w := fun x => by simp [Instr.checkKey, run_underlying Try.underlying31]
  have h3 : ∀ x : Int, (Instr.checkKey e (d + 1 + 1) 32 (.int .u32 x)).run Try.prog w = .ok () w := fun x => by simp [Instr.checkKey, run_underlying Try.underlying32]
  have h4 : (Instr.checkKey e (d + 1 + 1) 44 (dK a.2.2)).run Try.prog w = .ok () w := chk_dig d e _ w
  have p1 := part_counter a w
  have p2 := part_root a w
  have p3 : (part 32 (va 33 (rfF a.2.1 a.2.2)) 0).run Try.prog w = .ok (.int .u32 ((a.2.1 : Nat) : Int)) w := part_int _ _ Try.underlying32 _ _ _ (va_at (rfF a.2.1 a.2.2) (by decide)) w
  have p4 := part_sum a.2.1 a.2.2 w
  generalize va 33 (rfF a.2.1 a.2.2) = vx at *
  generalize dK a.2.2 = vs at *
  have h2 : (Instr.checkKey e (d + 1 + 1 + 1) 48 (.agg vx)).run Try.prog w = .ok () w := by
    rw [Instr.checkKey]
    simp only [Sem.run_bind, run_underlying Try.underlying48, Result.andThen_ok]
    simp [p3, p4, h3, h4]
  unfold slV
  generalize slC a = cs at *
  rw [Instr.checkKey]
  simp only [Sem.run_bind, run_underlying Try.underlying50, Result.andThen_ok]
  simp [p1, p2, h1, h2]
theorem slot_key : KeyOf Try.prog 50 slV where
  desc := ⟨_, Try.underlying50, (fun k h => by cases h), (fun h => by cases h), (fun h => by cases h)⟩
  eq a b w := eq_slot a b w
  chk e a w := chk_slot 9996 e a w
theorem infoSlot : (Try.prog.info? 50).map (fun i => (i.zero, i.size, i.bytes)) = some (some (slV sl0), 34, 48) := by kernel_rfl
theorem zero_slot (w : World) : (zeroValue 50).run Try.prog w = .ok (.agg (slC sl0)) w := by
  have h : (Try.prog.info? 50).bind (·.zero) = some (slV sl0) := by kernel_rfl
  cases hq : Try.prog.info? 50 with
  | none => simp [hq] at h
  | some i =>
    have hi : i.zero = some (slV sl0) := by simpa [hq] using h
    simp [zeroValue, typeInfo, hq, hi]
    rfl
theorem built_sl0 : Try.prog.built 50 [] = some (slC sl0) := by kernel_rfl
/-- a slot's cells out of a counter and a reference's -/
theorem built_slot (c a : Nat) (d : Vector Nat 32) : Try.prog.built 50 [(0, .int .u64 (c : Int)), (1, .agg (va 33 (rfF a d)))] = some (slC (c, a, d)) := by kernel_rfl
theorem built_refD (a : Nat) (d : Vector Nat 32) : Try.prog.built 48 [(0, .int .u32 (a : Int)), (1, .agg (va 32 (iv .u8 (dF d))))] = some (va 33 (rfF a d)) := by kernel_rfl
theorem built_ref (a : Nat) (f : Nat → Nat) : Try.prog.built 48 [(0, .int .u32 (a : Int)), (1, .agg (va 32 (iv .u8 f)))] = some (va 33 (rfF a (sumD f))) := by
  have e : va 32 (iv .u8 f) = va 32 (iv .u8 (dF (sumD f))) := va_congr fun i hi => by unfold iv; rw [dF_sumD f i hi]
  exact (congrArg (fun z => Try.prog.built 48 [(0, .int .u32 (a : Int)), (1, .agg z)]) e).trans (built_refD a (sumD f))
theorem built_ref1 (a : Nat) : Try.prog.built 48 [(0, .int .u32 (a : Int))] = some (va 33 (rfF a (Vector.replicate 32 0))) := by kernel_rfl
/-- all cells of a list of slots -/
def slL (L : List Sl) : List Value := L.flatMap fun s => (slC s).toList
theorem slL_length (L : List Sl) : (slL L).length = L.length * 34 := by
  induction L with
  | nil => rfl
  | cons s L ih =>
    have e : slL (s :: L) = (slC s).toList ++ slL L := rfl
    rw [e, List.length_append, ih, Array.length_toList, slC_size, List.length_cons]
    omega
theorem slL_at : ∀ (L : List Sl) (i j : Nat) (s : Sl), L[i]? = some s → j < 34 → (slL L)[i * 34 + j]? = some (slF s j)
  | [], i, j, s, h, hj => by simp at h
  | x :: L, 0, j, s, h, hj => by
    have e : slL (x :: L) = (slC x).toList ++ slL L := rfl
    simp at h
    subst h
    rw [e, List.getElem?_append_left (by rw [Array.length_toList, slC_size]; omega)]
    rw [Nat.zero_mul, Nat.zero_add]
    have := va_at (slF x) hj
    unfold slC
    simpa using this
  | x :: L, i + 1, j, s, h, hj => by
    have e : slL (x :: L) = (slC x).toList ++ slL L := rfl
    have := slL_at L i j s (by simpa using h) hj
    rw [e, List.getElem?_append_right (by rw [Array.length_toList, slC_size]; omega), Array.length_toList, slC_size, ← this]
    congr 1
    omega
theorem slL_snoc (L : List Sl) (s : Sl) : slL (L ++ [s]) = slL L ++ (slC s).toList := by simp [slL]
end Go.Proofs.Ytdhbjcnbdfidcaa

namespace Go.Proofs.Ytdhbjcnbdfidcaa
open Go.RowKit
set_option linter.unusedSimpArgs false
set_option linter.unusedVariables false

def Fit (a m : Int) : Prop := 0 ≤ a ∧ 0 ≤ m ∧ a ≤ 256 - m
instance (a m : Int) : Decidable (Fit a m) := by unfold Fit; infer_instance

end Go.Proofs.Ytdhbjcnbdfidcaa

namespace Go.Proofs.Ytdhbjcnbdfidcaa
open Go.RowKit
set_option linter.unusedSimpArgs false
set_option linter.unusedVariables false

theorem putAt_step (f : Nat → Nat) (r k : Nat) (b : Nat → Nat) : va 256 (upd (iv .u8 (putAt f r k b)) (r + k) (.int .u8 ((b k : Nat) : Int))) = va 256 (iv .u8 (putAt f r (k + 1) b)) := va_congr fun i _ => by
  unfold upd iv putAt
  by_cases h : i = r + k
  · rw [if_pos h, if_pos (by omega), show i - r = k from by omega]
  · rw [if_neg h]
    by_cases h2 : r ≤ i ∧ i < r + k
    · rw [if_pos h2, if_pos (by omega)]
    · rw [if_neg h2, if_neg (by omega)]
theorem putAt_zero (f : Nat → Nat) (r : Nat) (b : Nat → Nat) : putAt f r 0 b = f := by
  funext i
  unfold putAt
  rw [if_neg (by omega)]
theorem text_index (s : ByteArray) (k : Nat) (h : k < s.size) : (s[k]'h).toNat = tbyte s k := by
  unfold tbyte
  rw [List.getD_eq_getElem?_getD, List.getElem?_eq_getElem (by simpa using h)]
  rfl

end Go.Proofs.Ytdhbjcnbdfidcaa

namespace Go.Proofs.Ytdhbjcnbdfidcaa
open Go.RowKit
set_option linter.unusedSimpArgs false
set_option linter.unusedVariables false

theorem fup_text (s : ByteArray) : va 256 (iv .u8 (putAt (fun _ => 0) 0 s.size (tbyte s))) = va 256 (iv .u8 (tbyte s)) := va_congr fun i hi => by
  unfold iv putAt
  by_cases h : i < s.size
  · rw [if_pos (by omega), Nat.sub_zero]
  · rw [if_neg (by omega), tbyte_out s i (by omega)]

theorem strN_mod (f : Nat → Nat) (n j : Nat) (hj : j < n) : tbyte (strN f n) j = f j % 256 := by
  unfold tbyte strN
  rw [strOfNums_data, List.getD_eq_getElem?_getD]
  simp [hj]
theorem strN_extract (f : Nat → Nat) (N r q : Nat) (hq : q ≤ N) : (strN f N).extract r q = strN (fun j => f (r + j)) (q - r) := by
  have h1 : q ≤ (strN f N).size := by rw [strN_size]; exact hq
  refine text_ext (by rw [extract_size _ _ _ h1, strN_size]) fun j hj => ?_
  rw [extract_size _ _ _ h1] at hj
  rw [tbyte_extract _ _ _ _ h1 (by omega), strN_mod _ _ _ (by omega), strN_mod _ _ _ (by omega)]

end Go.Proofs.Ytdhbjcnbdfidcaa

namespace Go.Proofs.Ytdhbjcnbdfidcaa
open Go.RowKit
set_option linter.unusedSimpArgs false
set_option linter.unusedVariables false

/-- the block of a text -/
theorem put_text (s : ByteArray) : bkV (putAt (fun _ => 0) 0 s.size (tbyte s)) = bkV (tbyte s) := bkV_congr fun i hi => by
  unfold putAt
  by_cases h : i < s.size
  · rw [if_pos (by omega), Nat.sub_zero]
  · rw [if_neg (by omega), tbyte_out s i (by omega)]

end Go.Proofs.Ytdhbjcnbdfidcaa

namespace Go.Proofs.Ytdhbjcnbdfidcaa
open Go Go.ChangeShapes Go.WideShapes

section
variable {H : Type} {enc : TypeId × Value → H} {P : Program} {w : World} {base : Nat} {spare : Nat → Bool} {held : Bool}

theorem okWide_array {r : Reach} {b0 : Nat} {t e : TypeId} {n : Nat} {v : Value} (ht : P.underlying t = some (.array n e)) (h : Value.okWide P w r b0 t v) : ∃ cs, v = .agg cs ∧ cs.size = P.cellsOf t := by
  simp only [Value.okWide, ht] at h
  obtain ⟨cs, h1, h2, _⟩ := h
  exact ⟨cs, h1, h2⟩

theorem mapM_same {α β : Type} {f g : α → Option β} : ∀ {l : List α}, (∀ x ∈ l, f x = g x) → l.mapM f = l.mapM g
  | [], _ => rfl
  | a :: l, h => by
    simp only [List.mapM_cons]
    rw [h a (by simp), mapM_same fun x hx => h x (by simp [hx])]

theorem trod_int_any {k : IntKind} {e : TypeId} (he : P.underlying e = some (.int k)) {m : Nat} {cs : List Value} {x : DataW H × List MemPlace} (h : DataW.trod enc P w base spare held m e cs = some x)
    (w1 : World) (sp : Nat → Bool) : DataW.trod enc P w1 base sp held m e cs = some x := by
  cases m with
  | zero => simp [DataW.trod] at h
  | succ m =>
    obtain ⟨n, rfl, rfl, hw⟩ := DataW.trod_int he h
    simp [DataW.trod, he, hw]

theorem open_ints {r : Reach} {b0 : Nat} {t e : TypeId} {n : Nat} {k : IntKind} {v : Value} {d : DataW H} {p : List MemPlace} (ht : P.underlying t = some (.array n e)) (he : P.underlying e = some (.int k)) (hce : P.cellsOf e = 1) (hct : P.cellsOf t = n)
    (hv : Value.okWide P w r b0 t v) (h : DataW.Trod enc P w base spare held t v d p) :
    ∃ xs : List Int, xs.length = n ∧ v = .agg (xs.map (Value.int k)).toArray ∧ (∀ x ∈ xs, (Lit.int k x).wf = true) ∧ p = [] ∧ ∀ (w1 : World) (sp : Nat → Bool), DataW.Trod enc P w1 base sp held t v d [] := by
  obtain ⟨cs, rfl, hsz⟩ := okWide_array ht hv
  obtain ⟨fuel, hf⟩ := h
  obtain ⟨xs, m, rfl, hx, hl, hn, hall⟩ := DataW.trod_array ht hf
  have hl' : (Value.agg cs).cells.toList.length = n := hl.trans hct
  have hcs : (Value.agg cs).cells = cs := rfl
  rw [hcs] at hl' hall hf
  have elem : ∀ i, i < n → ∃ z : Int, cs.toList[i]? = some (.int k z) ∧ xs[i]? = some (.lit (.int k z), []) ∧ (Lit.int k z).wf = true := fun i hi => by
    have h1 := hall i hi
    have hget : xs[i]? = some xs[i] := List.getElem?_eq_getElem (by omega)
    rw [hget, hce, Nat.mul_one] at h1
    obtain ⟨z, hz, hz2, hz3⟩ := DataW.trod_int he h1
    refine ⟨z, ?_, by rw [hget, hz2], hz3⟩
    have h2 : (cs.toList.drop i).head? = some (.int k z) := by
      cases hd : cs.toList.drop i with
      | nil => rw [hd] at hz; simp at hz
      | cons a l => rw [hd] at hz; simp at hz; rw [hz]; rfl
    rw [List.head?_drop] at h2
    exact h2
  have hp : p = [] := by
    simp only [Prod.mk.injEq] at hx
    rw [hx.2]
    have : ∀ y ∈ xs, y.2 = [] := fun y hy => by
      obtain ⟨i, hi, rfl⟩ := List.getElem_of_mem hy
      obtain ⟨z, _, h2, _⟩ := elem i (by omega)
      rw [List.getElem?_eq_getElem hi] at h2
      simp only [Option.some.injEq] at h2
      rw [h2]
    exact List.flatMap_eq_nil_iff.2 this
  refine ⟨cs.toList.map fun v => match v with | .int _ z => z | _ => 0, by simpa using hl', ?_, ?_, hp, fun w1 sp => ⟨m + 1, ?_⟩⟩
  · congr 1
    apply Array.ext_getElem?
    intro i
    simp only [List.map_map, List.getElem?_toArray, List.getElem?_map]
    by_cases hi : i < n
    · obtain ⟨z, h1, _, _⟩ := elem i hi
      have h2 : cs[i]? = some (.int k z) := by simpa using h1
      rw [h2, h1]; rfl
    · have h1 : cs[i]? = none := Array.getElem?_eq_none (by simp at hl'; omega)
      have h2 : cs.toList[i]? = none := List.getElem?_eq_none (by omega)
      rw [h1, h2]; rfl
  · intro x hx2
    obtain ⟨v, hv2, rfl⟩ := List.mem_map.1 hx2
    obtain ⟨i, hi, rfl⟩ := List.getElem_of_mem hv2
    obtain ⟨z, h1, _, h3⟩ := elem i (by omega)
    rw [List.getElem?_eq_getElem hi] at h1
    simp only [Option.some.injEq] at h1
    rw [h1]; exact h3
  · rw [hp] at hf
    rw [hcs]
    unfold DataW.trod at hf ⊢
    rw [ht] at hf ⊢
    simp only at hf ⊢
    rw [mapM_same (g := fun i => DataW.trod enc P w base spare held m e ((cs.toList.drop (i * P.cellsOf e)).take (P.cellsOf e))) (fun i hi => ?_)]
    · exact hf
    · have hi' : i < n := by simpa using hi
      have h1 := hall i hi'
      have hget : xs[i]? = some xs[i] := List.getElem?_eq_getElem (by omega)
      rw [hget] at h1
      rw [h1]
      exact trod_int_any he h1 w1 sp
end
end Go.Proofs.Ytdhbjcnbdfidcaa

namespace Go.Proofs.Ytdhbjcnbdfidcaa
open Go Go.RowKit
set_option linter.unusedVariables false

theorem kblk_range {w : World} {g t n : Nat} {f : Nat → Value} (h : Blk w g t (va n f)) : w.rangeAt g 0 ((List.range n).map f) := fun j v hv => by
  refine h.range 0 n (by omega) j v ?_
  rw [← hv]
  simp
theorem kyields_load {P : Program} {ops : Array Oper} {S : World → Prop} {op : Oper} {a : Act} (hw : Region.wanted op (yielded ops a.tmps) = true) (ty : TypeId) (x : Operand) (ho : op.op = .load ty x)
    (b n : Nat) (f : Nat → Value) (hx : a.eval x = .pointer (some ⟨b, 0, none⟩)) (d : TypeDesc) (t : Nat) (hS : ∀ w, S w → Blk w b t (va n f))
    (hu : P.underlying ty = some d) (hd : d.isRow = true) (hi : (P.info? ty).map (·.size) = some n) : YieldsIf P ops S op (.agg (va n f)) a :=
  yieldsIf_load_mid hw ty x ho b 0 hx _ d (fun w h => kblk_range (hS w h)) hu hd (hi.trans (by simp))
/-- the block that a list of numbers is -/
def listF (l : List Int) : Nat → Nat := fun i => (l.getD i 0).toNat
theorem list_va (n : Nat) (l : List Int) (hl : l.length = n) (hw : ∀ x ∈ l, (Lit.int .u8 x).wf = true) : (l.map (Value.int .u8)).toArray = va n (iv .u8 (listF l)) := by
  refine va_ext (by simp [hl]) fun i hi => ?_
  have hm : l[i]'(by omega) ∈ l := List.getElem_mem _
  have h1 := hw _ hm
  have h2 : 0 ≤ l[i]'(by omega) := by
    have h3 := bounds_u8 h1
    omega
  unfold iv listF
  simp [List.getD_eq_getElem?_getD, hl, hi]
  omega
theorem list_bk (l : List Int) (hl : l.length = 256) (hw : ∀ x ∈ l, (Lit.int .u8 x).wf = true) : Value.agg (l.map (Value.int .u8)).toArray = bkV (listF l) := by
  unfold bkV
  rw [list_va 256 l hl hw]
theorem list_lt (l : List Int) (hw : ∀ x ∈ l, (Lit.int .u8 x).wf = true) (i : Nat) : listF l i < 256 := by
  unfold listF
  rw [List.getD_eq_getElem?_getD]
  by_cases hi : i < l.length
  · rw [List.getElem?_eq_getElem hi]
    have h1 := hw _ (List.getElem_mem hi)
    have h3 := bounds_u8 h1
    simp
    omega
  · rw [List.getElem?_eq_none (by omega)]
    simp
end Go.Proofs.Ytdhbjcnbdfidcaa

namespace Go.Proofs.Ytdhbjcnbdfidcaa
open Go.RowKit
set_option linter.unusedSimpArgs false
set_option linter.unusedVariables false

theorem va_mem_one (n : Nat) (f : Nat → Nat) : ∀ v ∈ (va n (iv .u8 f)).toList, v.oneCell' = true := fun v hv => by
  rw [va_toList] at hv
  obtain ⟨i, _, rfl⟩ := List.mem_map.1 hv
  rfl
def le8f (f : Nat → Nat) (o : Nat) : Nat := le8 (f o) (f (o + 1)) (f (o + 2)) (f (o + 3)) (f (o + 4)) (f (o + 5)) (f (o + 6)) (f (o + 7))
end Go.Proofs.Ytdhbjcnbdfidcaa

namespace Go.Proofs.Ytdhbjcnbdfidcaa
open Go.RowKit
set_option linter.unusedSimpArgs false
set_option linter.unusedVariables false

/-- the number of c bytes from place o on, the lowest first -/
def hornN (g : Nat → Nat) : Nat → Nat → Nat
  | _, 0 => 0
  | o, c + 1 => g o + 256 * hornN g (o + 1) c
theorem hornN_lt (g : Nat → Nat) (hg : ∀ i, g i < 256) : ∀ c o, hornN g o c < 256 ^ c
  | 0, _ => by simp [hornN]
  | c + 1, o => by
    have := hornN_lt g hg c (o + 1)
    have h2 := hg o
    unfold hornN
    rw [Nat.pow_succ]
    omega
theorem hornN_congr {g g' : Nat → Nat} : ∀ c o o', (∀ i, i < c → g (o + i) = g' (o' + i)) → hornN g o c = hornN g' o' c
  | 0, _, _, _ => rfl
  | c + 1, o, o', h => by
    unfold hornN
    have h0 := h 0 (by omega)
    rw [Nat.add_zero, Nat.add_zero] at h0
    rw [h0, hornN_congr c (o + 1) (o' + 1) fun i hi => by
      have := h (i + 1) (by omega)
      rw [show o + 1 + i = o + (i + 1) by omega, show o' + 1 + i = o' + (i + 1) by omega]
      exact this]
theorem horn4 (f : Nat → Nat) (o : Nat) : hornN f o 4 = le4f f o := by
  unfold le4f le4
  simp [hornN, Nat.add_assoc]
  omega
theorem horn8 (f : Nat → Nat) (o : Nat) : hornN f o 8 = le8f f o := by
  unfold le8f le8
  simp [hornN, Nat.add_assoc]
  omega

end Go.Proofs.Ytdhbjcnbdfidcaa

namespace Go.Proofs.Ytdhbjcnbdfidcaa
open Go Go.RowKit
set_option linter.unusedSimpArgs false
set_option linter.unusedVariables false

/-- a block, as a plain thing -/
def blkD (f : Nat → Nat) : Vector Nat 256 := Vector.ofFn fun i : Fin 256 => f i.1
def vF (d : Vector Nat 256) : Nat → Nat := fun i => (d[i]?).getD 0
def bK (d : Vector Nat 256) : Value := .agg (va 256 (iv .u8 (vF d)))
theorem vF_blkD (f : Nat → Nat) : va 256 (iv .u8 (vF (blkD f))) = va 256 (iv .u8 f) := va_congr fun i hi => by
  unfold iv vF blkD
  congr 2
  simp [hi]
theorem bK_blkD (f : Nat → Nat) : bK (blkD f) = .agg (va 256 (iv .u8 f)) := by
  unfold bK
  rw [vF_blkD]
theorem vF_inj {a b : Vector Nat 256} (h : bkSame (vF a) (vF b)) : a = b := by
  apply Vector.ext
  intro i hi
  have := h i hi
  unfold vF at this
  simpa [hi] using this
theorem blkD_same (f g : Nat → Nat) : blkD f = blkD g ↔ bkSame f g := by
  constructor
  · intro h i hi
    have := congrArg (fun d : Vector Nat 256 => vF d i) h
    simp only [vF, blkD] at this
    simpa [hi] using this
  · intro h
    refine vF_inj fun i hi => ?_
    simp only [vF, blkD]
    simpa [hi] using h i hi
theorem chk_blk (d : Nat) (e : Bool) (f : Nat → Nat) (w : World) : (Instr.checkKey e (d + 1 + 1) 60 (.agg (va 256 (iv .u8 f)))).run Try.prog w = .ok () w := by
  have hc := size_u8 w
  have h1 : ∀ x : Int, (Instr.checkKey e (d + 1) 5 (.int .u8 x)).run Try.prog w = .ok () w := fun x => by simp [Instr.checkKey, run_underlying Try.underlying5]
  have p1 : ∀ i, i < 256 → (part 5 (va 256 (iv .u8 f)) (i * 1)).run Try.prog w = .ok (.int .u8 ((f i : Nat) : Int)) w := fun i hi => by
    have := va_at (iv .u8 f) hi
    simp [part, isAgg, run_underlying Try.underlying5, this]
    rfl
  generalize va 256 (iv .u8 f) = cs at *
  rw [Instr.checkKey]
  simp only [Sem.run_bind, run_underlying Try.underlying60, Result.andThen_ok]
  have key : ∀ l : List Nat, (∀ i ∈ l, i < 256) → Sem.run Try.prog (forIn l PUnit.unit fun i __s => do
      let __do_lift ← sizeOf 5
      let __do_lift ← part 5 cs (i * __do_lift)
      Instr.checkKey e (d + 1) 5 __do_lift
      pure (ForInStep.yield PUnit.unit)) w = .ok PUnit.unit w := by
    intro l
    induction l with
    | nil => intro _; simp
    | cons i l ih =>
      intro h
      simp only [List.forIn_cons, Sem.run_bind, hc, Result.andThen_ok, p1 i (h i (by simp)), h1, Sem.run_pure]
      exact ih fun j hj => h j (by simp [hj])
  simp only [Std.Legacy.Range.forIn_eq_forIn_range']
  rw [key _ (fun i hi => by simpa using hi)]
  rfl
set_option maxRecDepth 100000 in
theorem blk_key : KeyOf Try.prog 60 bK where
  desc := ⟨_, Try.underlying60, (fun k h => by cases h), (fun h => by cases h), (fun h => by cases h)⟩
  eq a b w := by
    have := eq_bk 60 Try.underlying60 (vF a) (vF b) w
    refine Eq.trans this ?_
    congr 1
    by_cases h : a = b
    · subst h
      rw [decide_eq_true (fun _ _ => rfl), decide_eq_true rfl]
    · rw [decide_eq_false h, decide_eq_false fun q => h (vF_inj q)]
  chk e a w := chk_blk 9998 e (vF a) w
end Go.Proofs.Ytdhbjcnbdfidcaa

namespace Go.Proofs.Ytdhbjcnbdfidcaa
open Go Go.RowKit
set_option linter.unusedVariables false
set_option linter.unusedSimpArgs false

section
variable {α : Type} [DecidableEq α]
/-- no like one stands ahead of place i -/
def isNew (D : Nat → α) (i : Nat) : Bool := (List.range i).all fun x => decide (D x ≠ D i)
theorem isNew_iff (D : Nat → α) (i : Nat) : isNew D i = true ↔ ∀ x, x < i → D x ≠ D i := by
  unfold isNew
  simp [List.all_eq_true]
/-- the first places, in their order -/
def firstsOf (D : Nat → α) (k : Nat) : List Nat := (List.range k).filter (isNew D)
/-- the places below k that are like place i -/
def grpOf (D : Nat → α) (k i : Nat) : List Nat := (List.range k).filter fun x => decide (D x = D i)
theorem firstsOf_succ (D : Nat → α) (k : Nat) : firstsOf D (k + 1) = if isNew D k then firstsOf D k ++ [k] else firstsOf D k := by
  unfold firstsOf
  rw [List.range_succ, List.filter_append]
  by_cases h : isNew D k = true
  · simp [h]
  · simp [h]
theorem grpOf_succ (D : Nat → α) (k i : Nat) : grpOf D (k + 1) i = if D k = D i then grpOf D k i ++ [k] else grpOf D k i := by
  unfold grpOf
  rw [List.range_succ, List.filter_append]
  by_cases h : D k = D i
  · simp [h]
  · simp [h]
theorem firstsOf_mem (D : Nat → α) (k i : Nat) : i ∈ firstsOf D k ↔ i < k ∧ ∀ x, x < i → D x ≠ D i := by
  unfold firstsOf
  rw [List.mem_filter, List.mem_range, isNew_iff]
theorem firstsOf_inj (D : Nat → α) (k : Nat) {i j : Nat} (hi : i ∈ firstsOf D k) (hj : j ∈ firstsOf D k) (h : D i = D j) : i = j := by
  rw [firstsOf_mem] at hi hj
  rcases Nat.lt_trichotomy i j with q | q | q
  · exact absurd h (hj.2 i q)
  · exact q
  · exact absurd h.symm (hi.2 j q)
theorem firstsOf_nodup (D : Nat → α) (k : Nat) : (firstsOf D k).Nodup := List.Pairwise.filter _ List.nodup_range
/-- each place has its first one -/
theorem firstsOf_has (D : Nat → α) (k x : Nat) (hx : x < k) : ∃ i ∈ firstsOf D k, D i = D x := by
  induction x using Nat.strongRecOn with
  | ind x ih =>
    by_cases h : ∀ y, y < x → D y ≠ D x
    · exact ⟨x, (firstsOf_mem D k x).2 ⟨hx, h⟩, rfl⟩
    · simp only [Classical.not_forall, not_imp, ne_eq, Classical.not_not] at h
      obtain ⟨y, hy, he⟩ := h
      obtain ⟨i, hi, hd⟩ := ih y hy (by omega)
      exact ⟨i, hi, hd.trans he⟩
theorem grpOf_new (D : Nat → α) (k : Nat) (h : isNew D k = true) : grpOf D k k = [] := by
  unfold grpOf
  rw [List.filter_eq_nil_iff]
  intro x hx
  rw [List.mem_range] at hx
  simpa using (isNew_iff D k).1 h x hx
/-- all groups -/
def grpsOf (D : Nat → α) (k : Nat) : List (List Nat) := (firstsOf D k).map (grpOf D k)
theorem grpsOf_new (D : Nat → α) (k : Nat) (h : isNew D k = true) : grpsOf D (k + 1) = grpsOf D k ++ [[k]] := by
  unfold grpsOf
  rw [firstsOf_succ, if_pos h, List.map_append]
  congr 1
  · refine List.map_congr_left fun i hi => ?_
    rw [grpOf_succ, if_neg]
    intro q
    have := (firstsOf_mem D k i).1 hi
    exact (isNew_iff D k).1 h i this.1 q.symm
  · simp [grpOf_succ, grpOf_new D k h]
theorem grpsOf_old (D : Nat → α) (k j : Nat) (h : isNew D k = false) (hj : j < (firstsOf D k).length) (hd : D ((firstsOf D k).getD j 0) = D k) : grpsOf D (k + 1) = (grpsOf D k).set j ((grpsOf D k).getD j [] ++ [k]) := by
  unfold grpsOf
  rw [firstsOf_succ, if_neg (by simp [h])]
  apply List.ext_getElem?
  intro n
  have hgj : (firstsOf D k).getD j 0 = (firstsOf D k)[j] := by simp [List.getD, hj]
  rw [hgj] at hd
  rw [List.getElem?_map]
  by_cases hn : n < (firstsOf D k).length
  · rw [List.getElem?_eq_getElem hn]
    simp only [Option.map_some]
    rw [grpOf_succ]
    by_cases e : n = j
    · subst e
      rw [if_pos hd.symm]
      simp [List.getElem?_set, hn, List.getD]
    · rw [if_neg]
      · rw [List.getElem?_set_ne (by omega), List.getElem?_map, List.getElem?_eq_getElem hn]
        rfl
      · intro q
        have := firstsOf_inj D k (List.getElem_mem hn) (List.getElem_mem hj) (q.symm.trans hd.symm)
        exact e ((List.getElem_inj (firstsOf_nodup D k)).1 this)
  · rw [List.getElem?_eq_none (by omega), List.getElem?_eq_none (by simp; omega)]
    rfl
end
end Go.Proofs.Ytdhbjcnbdfidcaa

namespace Go.Proofs.Ytdhbjcnbdfidcaa
open Go.RowKit
set_option linter.unusedSimpArgs false
set_option linter.unusedVariables false

/-- what a log may change: its own block, its map, its row -/
def LogKeeps (g r : Nat) (v : Value) (w w' : World) : Prop :=
  w'.os = w.os ∧ w'.tape = w.tape ∧ w'.output = w.output ∧ w.heap.size ≤ w'.heap.size ∧ ∀ k, k < w.heap.size → k ≠ g → k ≠ r → v.ownBlock ≠ some k → w'.heap[k]? = w.heap[k]?

theorem own_ne {w : World} {B e size n g t : Nat} {v : Value} {xs : List Value} {cs : Array Value} (h : w.ownsRow B e size v n xs) (hb : Blk w g t cs) (hne : e ≠ t) : v.ownBlock ≠ some g := fun hq => by
  rcases h.2 with ⟨rfl, _⟩ | ⟨b, cap, cur, rfl, _, hg, _⟩
  · simp [Value.ownBlock] at hq
  · simp [Value.ownBlock] at hq
    subst hq
    unfold Blk at hb
    rw [hb] at hg
    simp at hg
    exact hne hg.2.symm
theorem own_map {w : World} {B e size n r clock : Nat} {v : Value} {xs : List Value} {es : Array MapEntry} (h : w.ownsRow B e size v n xs) (hb : w.heap[r]? = some (.map es clock)) : v.ownBlock ≠ some r := fun hq => by
  rcases h.2 with ⟨rfl, _⟩ | ⟨b, cap, cur, rfl, _, hg, _⟩
  · simp [Value.ownBlock] at hq
  · simp [Value.ownBlock] at hq
    subst hq
    rw [hb] at hg
    cases hg
theorem own_block {w w' : World} {B e size n : Nat} {v : Value} {xs : List Value} (h : w.ownsRow B e size v n xs) (hk : ∀ k, v.ownBlock = some k → w'.heap[k]? = w.heap[k]?) : w'.ownsRow B e size v n xs := by
  refine ⟨h.1, ?_⟩
  rcases h.2 with hn | ⟨g, cap, cur, rfl, hg, hgg, rest⟩
  · exact .inl hn
  · exact .inr ⟨g, cap, cur, rfl, hg, (hk g rfl).trans hgg, rest⟩
theorem step_append_own {P : Program} {ops : Array Oper} {o : Oper} {a : Act} {w : World} {K : Act → World → Prop} {Q : Exit → Act → World → Prop} {F : Prop} (hgd : o.guard = none) (s x : Operand) (t : TypeId)
    (ho : o.op = .call { callee := .builtin .append, args := #[s, x], argTypes := #[t, t] })
    (base : Nat) (e : TypeId) (i : TypeInfo) (z : Value) (size bytes : Nat) (ht : P.underlying t = some (.slice e)) (hi : P.info? e = some i) (hz : i.zero = some z)
    (hsize : i.size = size) (hby : i.bytes = bytes) (hzs : z.cells.size = size) (hsz : 0 < size)
    (v : Value) (n : Nat) (xs : List Value) (hs : a.eval s = v) (hown : w.ownsRow base e size v n xs)
    (ad : Addr) (m c : Nat) (news : List Value) (hx : a.eval x = .slice (some ad) m c) (hl : news.length = m * size) (hnews : ∀ j u, news[j]? = some u → w.cell? (ad.add j) = some u) (h1 : ∀ u ∈ news, u.oneCell' = true)
    (h63 : n + m ≤ maxLen) (hbytes : (n + m) * bytes ≤ 140737488355328) (hbase : base ≤ w.heap.size)
    (h : ∀ v' w', w'.ownsRow base e size v' (n + m) (xs ++ news) → w.grownBy w' v.ownBlock → (v'.ownBlock = v.ownBlock ∨ v'.ownBlock = some w.heap.size) → K (a.put o.dst v') w') :
    if Region.wanted o (yielded ops a.tmps) = true then Oper.wp P o a w K Q else F := by
  have hw : Region.wanted o (yielded ops a.tmps) = true := by simp [Region.wanted, hgd]
  rw [if_pos hw]
  obtain ⟨v', w', hr, g1, g2, g3, g4⟩ := run_append_own_at (P := P) w base t o.type e i z size bytes ht hi hz hsize hby hzs hsz v n xs hown ad m c news hl hnews h1 h63 hbytes hbase
  unfold Oper.wp
  simp [execOp, ho, resolve, invoke, builtin, hs, hx, hr, Result.andThen]
  exact h v' w' g1 g2 g4

end Go.Proofs.Ytdhbjcnbdfidcaa

namespace Go.Proofs.Ytdhbjcnbdfidcaa
open Go.RowKit
set_option linter.unusedSimpArgs false
set_option linter.unusedVariables false

theorem find_sum (e : Nat × ByteArray) : ∀ E : List (Nat × ByteArray), isIn e E = true → lookS e E = sumOf e
  | [], h => by cases h
  | x :: E, h => by
    unfold isIn lookS at *
    simp only [List.map_cons, findIn] at h ⊢
    by_cases q : e = x
    · subst q
      simp
    · simp only [q, if_false] at h ⊢
      exact find_sum e E h

end Go.Proofs.Ytdhbjcnbdfidcaa

namespace Go.Proofs.Ytdhbjcnbdfidcaa
open Go.RowKit
set_option linter.unusedSimpArgs false
set_option linter.unusedVariables false

theorem entCells_one (E : List (Nat × ByteArray)) : ∀ u ∈ entCells E, u.oneCell' = true := fun u hu => by
  unfold entCells at hu
  obtain ⟨e, _, he⟩ := List.mem_flatMap.1 hu
  simp at he
  rcases he with rfl | rfl <;> rfl
end Go.Proofs.Ytdhbjcnbdfidcaa

namespace Go.Proofs.Ytdhbjcnbdfidcaa
open Go.RowKit
set_option linter.unusedSimpArgs false
set_option linter.unusedVariables false

theorem entCells_at (E : List (Nat × ByteArray)) : ∀ i, i < E.length → (entCells E)[2 * i]? = some (.int .u8 (((E.getD i (0, ByteArray.empty)).1 : Nat) : Int)) ∧ (entCells E)[2 * i + 1]? = some (.string (E.getD i (0, ByteArray.empty)).2) := by
  induction E with
  | nil => intro i hi; simp at hi
  | cons e E ih =>
    intro i hi
    cases i with
    | zero => simp [entCells]
    | succ i =>
      have := ih i (by simp at hi; omega)
      unfold entCells at this ⊢
      simp only [List.flatMap_cons, List.getD_cons_succ]
      rw [show 2 * (i + 1) = 2 * i + 2 from by omega]
      simpa using this

end Go.Proofs.Ytdhbjcnbdfidcaa

namespace Go.Proofs.Ytdhbjcnbdfidcaa
open Go.RowKit
set_option linter.unusedSimpArgs false
set_option linter.unusedVariables false

/-- the digests of a list of entries -/
def digAt (E : List (Nat × ByteArray)) (i : Nat) : Vector Nat 32 := dg (E.getD i (0, ByteArray.empty))
theorem isIn_mem (e : Nat × ByteArray) : ∀ E : List (Nat × ByteArray), isIn e E = true ↔ e ∈ E := by
  intro E
  induction E with
  | nil => simp [isIn, findIn]
  | cons x E ih =>
    unfold isIn at ih ⊢
    simp only [List.map_cons, findIn]
    by_cases h : e = x
    · subst h
      simp
    · simp [h, ih]
theorem isIn_at (E : List (Nat × ByteArray)) (i : Nat) (h : i < E.length) : isIn (E.getD i (0, ByteArray.empty)) E = true := by
  rw [isIn_mem]
  simp [List.getD, h]

end Go.Proofs.Ytdhbjcnbdfidcaa

namespace Go.Proofs.Ytdhbjcnbdfidcaa
open Go Go.RowKit

section
variable {ops : Array Oper}

/-- every order from here on has so many steps -/
def treeOk (ops : Array Oper) : Nat → Array Bool → Bool
  | 0, listed => (Region.ready .any ops listed).isEmpty
  | n + 1, listed => !(Region.ready .any ops listed).isEmpty && (Region.ready .any ops listed).all fun i => (ops[i]?).isSome && treeOk ops n (listed.setIfInBounds i true)
/-- the check of the whole region -/
def treeB (ops : Array Oper) (lows : List Tmp) (takes : List Nat) : Bool :=
  decide (takes.length ≤ ops.size) && Region.noSelect ops && (lows.all fun x => ops.all fun o => o.dst != some x) &&
    match takesB .any ops [] lows takes (Array.replicate ops.size false) with
    | some l => treeOk ops (ops.size - takes.length) l
    | none => false
def listedOf (n : Nat) (takes : List Nat) : Array Bool := takes.foldl (fun l i => l.setIfInBounds i true) (Array.replicate n false)
theorem takesB_listed {md : Region.Mode} {Wl : List Nat} {lows : List Tmp} : ∀ (ts : List Nat) (l l2 : Array Bool), takesB md ops Wl lows ts l = some l2 → l2 = ts.foldl (fun l i => l.setIfInBounds i true) l
  | [], l, l2, h => by simp only [takesB, Option.some.injEq] at h; exact h.symm
  | i :: ts, l, l2, h => by
    unfold takesB at h
    split at h
    · exact takesB_listed ts _ l2 h
    · cases h
end
section
variable {P : Program} {ops : Array Oper} {Q : Exit → Act → World → Prop} {B : Nat} {w0 : World} {lows : List Tmp}
/-- S is kept behind every step of the walk that is left -/
def wpTreeS (P : Program) (ops : Array Oper) (Q : Exit → Act → World → Prop) (S : World → Prop) : Nat → Array Bool → Act → World → Prop
  | 0, _, a, w => Strict Q .normal a w
  | n + 1, listed, a, w => ∀ i ∈ Region.ready .any ops listed, wpList P ops (Strict fun _ a' w' => S w' ∧ wpTreeS P ops Q S n (listed.setIfInBounds i true) a' w') ([i].filterMap fun i => ops[i]?) a w
theorem treeS_any {S : World → Prop} : ∀ (n : Nat) (listed : Array Bool) (a : Act) (w : World), treeOk ops n listed = true → wpTreeS P ops Q S n listed a w → wpAnyW P .any ops (Strict Q) S (([] : List Nat).contains ·) n listed a w
  | 0, listed, a, w, hb, h => ⟨by simpa [treeOk] using hb, h⟩
  | n + 1, listed, a, w, hb, h => by
    simp only [treeOk, Bool.and_eq_true, Bool.not_eq_true', List.all_eq_true] at hb
    refine ⟨fun h0 => (by rw [h0] at hb; exact absurd hb.1 (by simp)), fun i hi => ?_⟩
    obtain ⟨h1, h2⟩ := hb.2 i hi
    obtain ⟨o, ho⟩ := Option.isSome_iff_exists.1 h1
    refine wpOp_mono (fun a' w' h' => ?_) (wpOp_strict (wpList_one ho (h i hi)))
    exact ⟨fun _ => h'.2.1, treeS_any n _ a' w' h2 h'.2.2⟩
/-- THE LAW. -/
theorem wp_region_tree {id : Nat} {a : Act} {w : World} (lows : List Tmp) (takes : List Nat) (B : Nat) (hm : P.follows .mixedOrders = true) (hB : treeB ops lows takes = true)
    (hl : Lows lows B w a)
    (h : wpList P ops (Strict fun _ a' w' => wpTreeS P ops Q (Below B w) (ops.size - takes.length) (listedOf ops.size takes) a' w') ((takes ++ []).filterMap fun i => ops[i]?) a w.drew) :
    (Code.region id ops true).wp P Q a w := by
  unfold treeB at hB
  simp only [Bool.and_eq_true, decide_eq_true_eq] at hB
  obtain ⟨⟨⟨hlen, hs⟩, hlow⟩, hrest⟩ := hB
  have hd : ∀ x ∈ lows, ∀ (j : Nat) (o : Oper), ops[j]? = some o → o.dst ≠ some x := fun x hx j o ho => by
    have h1 := List.all_eq_true.1 hlow x hx
    have h2 := Array.all_eq_true_iff_forall_mem.1 h1 o (Array.mem_of_getElem? ho)
    simpa using h2
  split at hrest
  · rename_i l hl2
    have he := takesB_listed takes _ l hl2
    refine Code.wp_mono Strict.imp (wp_region_any hm ?_)
    have e : ops.size = takes.length + (ops.size - takes.length) := by omega
    rw [e]
    refine wpAny_of_W (S := Below B w) (W := (([] : List Nat).contains ·)) _ _ _ _ (takes_step hs hd [] _ _ takes _ l a _ (by rw [← e]; exact hl2) (fun a' w' hl' _ h' => ?_) hl (Below.refl B w).drew h)
    have h2 := h'.2
    unfold listedOf at h2
    rw [← he] at h2
    exact treeS_any _ l a' w' hrest h2
  · cases hrest
theorem treeS_step {S : World → Prop} {n : Nat} {listed : Array Bool} {a : Act} {w : World} (l : List Nat) (hr : (Region.ready .any ops listed == l) = true)
    (h : ∀ i ∈ l, wpList P ops (Strict fun _ a' w' => S w' ∧ wpTreeS P ops Q S n (listed.setIfInBounds i true) a' w') ([i].filterMap fun i => ops[i]?) a w) : wpTreeS P ops Q S (n + 1) listed a w := by
  unfold wpTreeS
  rw [eq_of_beq hr]
  exact h
theorem treeS_one {S : World → Prop} {n : Nat} {listed : Array Bool} {a : Act} {w : World} (i : Nat) (hr : (Region.ready .any ops listed == [i]) = true)
    (h : wpList P ops (Strict fun _ a' w' => S w' ∧ wpTreeS P ops Q S n (listed.setIfInBounds i true) a' w') ([i].filterMap fun i => ops[i]?) a w) : wpTreeS P ops Q S (n + 1) listed a w :=
  treeS_step [i] hr fun j hj => by
    have : j = i := by simpa using hj
    subst this
    exact h
theorem treeS_two {S : World → Prop} {n : Nat} {listed : Array Bool} {a : Act} {w : World} (i j : Nat) (hr : (Region.ready .any ops listed == [i, j]) = true)
    (h : wpList P ops (Strict fun _ a' w' => S w' ∧ wpTreeS P ops Q S n (listed.setIfInBounds i true) a' w') ([i].filterMap fun i => ops[i]?) a w)
    (h2 : wpList P ops (Strict fun _ a' w' => S w' ∧ wpTreeS P ops Q S n (listed.setIfInBounds j true) a' w') ([j].filterMap fun i => ops[i]?) a w) : wpTreeS P ops Q S (n + 1) listed a w :=
  treeS_step [i, j] hr fun k hk => by
    have : k = i ∨ k = j := by simpa using hk
    rcases this with rfl | rfl
    · exact h
    · exact h2
theorem treeS_last {S : World → Prop} {listed : Array Bool} {a : Act} {w : World} (h : Strict Q .normal a w) : wpTreeS P ops Q S 0 listed a w := h
end
end Go.Proofs.Ytdhbjcnbdfidcaa

namespace Go.Proofs.Ytdhbjcnbdfidcaa
open Go.RowKit
set_option linter.unusedSimpArgs false
set_option linter.unusedVariables false

/-- an entry put behind the others, if it is new -/
def putE (E : List (Nat × ByteArray)) (e : Nat × ByteArray) : List (Nat × ByteArray) := if isIn e E then E else E ++ [e]
theorem notIn_all {E : List (Nat × ByteArray)} {e : Nat × ByteArray} (h : ∀ j, j < E.length → E.getD j (0, ByteArray.empty) ≠ e) : isIn e E = false := by
  cases hq : isIn e E with
  | false => rfl
  | true =>
    rw [isIn_mem] at hq
    obtain ⟨j, hj, he⟩ := List.getElem_of_mem hq
    exact absurd (by simp [List.getD, hj, he]) (h j hj)

end Go.Proofs.Ytdhbjcnbdfidcaa
