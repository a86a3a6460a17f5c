/- As the law for a region in parts; in the place of 'the memory below B is as it was' stands whatever S is shown to hold behind each part. No program in it. -/
import Derived.Test.YtbcgpiocigjkoaaGreatHDigText
import Derived.Test.YtbcgpiocigjkoaaGreatHCollKit
import Derived.Laws.BytesArg
import Derived.Laws.ResultCell
import Derived.Handy
import Derived.ArgAppend
import Derived.OpenShut
import Derived.Deep.MidRow
import Derived.Great.BuildSlice
import Derived.OwnWalk
import Derived.Maps.AppendAt
import Derived.Lib.ConvBytes

namespace Go.Proofs.YtbcgpiocigjkoaaGreat
set_option linter.unusedVariables false
open Go Go.RowKit

/-- a block's value -/
def bkV (f : Nat → Nat) : Value := .agg (va 256 (iv .u8 f))
/-- the byte of a text at a place -/
def tbyte (s : ByteArray) (i : Nat) : Nat := (s.data.toList.getD i 0).toNat
/-- n bytes as a text -/
def strN (f : Nat → Nat) (n : Nat) : ByteArray := strOfNums ((List.range n).map fun i => (f i : Int))
theorem strN_size (f : Nat → Nat) (n : Nat) : (strN f n).size = n := by unfold strN; rw [strOfNums_size]; simp
theorem strN_at (f : Nat → Nat) (n j : Nat) (hj : j < n) (hf : f j < 256) : tbyte (strN f n) j = f j := by
  unfold tbyte strN
  rw [strOfNums_data, List.getD_eq_getElem?_getD]
  simp [hj]
  omega
theorem text_ext {s t : ByteArray} (h1 : s.size = t.size) (h2 : ∀ j, j < s.size → tbyte s j = tbyte t j) : s = t := by
  have e : s.data = t.data := by
    apply Array.ext
    · exact h1
    · intro i hi1 hi2
      have := h2 i hi1
      unfold tbyte at this
      rw [List.getD_eq_getElem?_getD, List.getD_eq_getElem?_getD, List.getElem?_eq_getElem (by simpa using hi1), List.getElem?_eq_getElem (by simpa using hi2)] at this
      have h3 : (s.data[i]).toNat = (t.data[i]).toNat := by simpa using this
      exact UInt8.toNat_inj.1 h3
  cases s; cases t; simp_all
theorem strN_congr {f g : Nat → Nat} {n : Nat} (h : ∀ j, j < n → f j = g j) : strN f n = strN g n := by
  unfold strN
  congr 1
  exact List.map_congr_left fun j hj => by rw [h j (List.mem_range.1 hj)]
theorem tbyte_extract (s : ByteArray) (a b j : Nat) (hb : b ≤ s.size) (h : a + j < b) : tbyte (s.extract a b) j = tbyte s (a + j) := by
  unfold tbyte
  have hs : s.data.toList.length = s.size := Array.length_toList
  rw [ByteArray.data_extract]
  simp only [List.getD_eq_getElem?_getD, Array.toList_extract, List.extract_eq_take_drop]
  rw [List.getElem?_take, List.getElem?_drop, if_pos (by omega)]
theorem extract_size (s : ByteArray) (a b : Nat) (hb : b ≤ s.size) : (s.extract a b).size = b - a := by
  rw [ByteArray.size_extract]
  omega
/-- n bytes as values -/
def byL (f : Nat → Nat) (m : Nat) : List Value := (List.range m).map fun j => Value.int .u8 ((f j : Nat) : Int)
theorem byL_length (f : Nat → Nat) (m : Nat) : (byL f m).length = m := by simp [byL]
theorem byL_at (f : Nat → Nat) (m j : Nat) (h : j < m) : (byL f m)[j]? = some (.int .u8 ((f j : Nat) : Int)) := by simp [byL, h]
theorem byL_congr {f g : Nat → Nat} {m : Nat} (h : ∀ j, j < m → f j = g j) : byL f m = byL g m := List.map_congr_left fun j hj => by rw [h j (List.mem_range.1 hj)]
theorem text_prefix (s : ByteArray) (n : Nat) (h : n ≤ s.size) : List.take n (List.map (fun b : UInt8 => Value.int .u8 (b.toNat : Int)) s.data.toList) = byL (tbyte s) n := by
  have hs : s.data.toList.length = s.size := Array.length_toList
  apply List.ext_getElem?
  intro i
  by_cases hi : i < n
  · rw [byL_at _ _ _ hi, List.getElem?_take_of_lt hi, List.getElem?_map, List.getElem?_eq_getElem (by omega)]
    unfold tbyte
    rw [List.getD_eq_getElem?_getD, List.getElem?_eq_getElem (by omega)]
    rfl
  · rw [List.getElem?_eq_none (by rw [List.length_take]; omega), List.getElem?_eq_none (by rw [byL_length]; omega)]
section
variable {P : Program}
theorem run_copy_text (w : World) (dT sT ty elem : TypeId) (g o dLen dCap : Nat) (s : ByteArray) (cur : Array Value) (t : TypeId) (n : Nat)
    (hu : P.underlying dT = some (.slice elem)) (hs : (P.info? elem).map (·.size) = some 1)
    (hg : w.heap[g]? = some (.cells cur t (0, 0))) (hn : n = Nat.min s.size dLen) (hfit : o + n ≤ cur.size) :
    (Builtin.copy_ #[dT, sT] ty #[.slice (some ⟨g, o, none⟩) dLen dCap, .string s]).run P w =
      .ok (goInt n) (w.setRow g (splice cur.toList o (byL (tbyte s) n)).toArray) := by
  have hns : n ≤ s.size := by rw [hn]; exact Nat.min_le_left _ _
  have eL := text_prefix s n hns
  have hst := run_storeCells_at P g o t (List.take n (List.map (fun b : UInt8 => Value.int .u8 (b.toNat : Int)) s.data.toList)) 0 cur w hg (by rw [eL, byL_length]; simpa using hfit) (by rw [eL]; exact mem_iv_one _ _ _)
  have e2 : (w.setRow g (cur.toList.take (o + 0) ++ List.take n (List.map (fun b : UInt8 => Value.int .u8 (b.toNat : Int)) s.data.toList) ++ cur.toList.drop (o + 0 + (List.take n (List.map (fun b : UInt8 => Value.int .u8 (b.toNat : Int)) s.data.toList)).length)).toArray) = w.setRow g (splice cur.toList o (byL (tbyte s) n)).toArray := by
    rw [eL]
    unfold splice
    rw [List.append_assoc, Nat.add_zero]
  rw [e2] at hst
  cases hq : P.info? elem with
  | none => simp [hq] at hs
  | some i =>
    have hi : i.size = 1 := by simpa [hq] using hs
    generalize w.setRow g (splice cur.toList o (byL (tbyte s) n)).toArray = W at *
    simp [Builtin.copy_, run_underlying hu, Builtin.lenOf, Builtin.firstCells, sizeOf, typeInfo, hq, ← hn, hst]
/-- a text copied, as one operation -/
theorem wpList_copy_text {ops : Array Oper} {rest : List Oper} {o : Oper} {a : Act} {w : World} {Q : Exit → Act → World → Prop} (hgd : o.guard = none) (d s : Operand) (dT sT : TypeId)
    (ho : o.op = .call { callee := .builtin .copy, args := #[d, s], argTypes := #[dT, sT] }) (elem : TypeId) (hu : P.underlying dT = some (.slice elem)) (hsz : (P.info? elem).map (·.size) = some 1)
    (g off dLen dCap : Nat) (str : ByteArray) (hd : a.eval d = .slice (some ⟨g, off, none⟩) dLen dCap) (hs : a.eval s = .string str)
    (cur : Array Value) (t : TypeId) (hg : w.heap[g]? = some (.cells cur t (0, 0))) (n : Nat) (hn : n = Nat.min str.size dLen) (hfit : off + n ≤ cur.size)
    (h : wpList P ops Q rest (a.put o.dst (goInt n)) (w.setRow g (splice cur.toList off (byL (tbyte str) n)).toArray)) :
    wpList P ops Q (o :: rest) a w := by
  have hrun := run_copy_text (P := P) w dT sT o.type elem g off dLen dCap str cur t n hu hsz hg hn hfit
  refine wpList_plain hgd fun K hK => ?_
  unfold Oper.wp
  simp [execOp, ho, resolve, invoke, builtin, hd, hs, hrun, Result.andThen]
  exact hK _ _ h
theorem run_bytes_text (w : World) (src e dst : TypeId) (hs : P.underlying src = some (.slice e)) (he : P.underlying e = some (.int .u8)) (hd : P.underlying dst = some .string) {g t N : Nat} {f : Nat → Nat} (h : Blk w g t (va N (iv .u8 f))) (o n c : Nat) (hn : o + n ≤ N) :
    (convert src dst (.slice (some ⟨g, o, none⟩) n c)).run P w = .ok (.string (strN (fun j => f (o + j)) n)) w :=
  run_convert_bytes_arg w src e hs he g o n c _ (by simp) (fun i hi => by
    rw [h.cv (i := o + i) (by omega)]
    simp [List.getD_eq_getElem?_getD, hi, iv]) dst hd
theorem eq_bytes (t e : TypeId) (n : Nat) (ht : P.underlying t = some (.array n e)) (he : P.underlying e = some (.int .u8)) (hi : (P.info? e).map (·.size) = some 1) (hc : P.cellsOf e = 1) (f g : Nat → Nat) (w : World) :
    (Op.equalIn 10000 t (.agg (va n (iv .u8 f))) (.agg (va n (iv .u8 g)))).run P w = .ok (decide (∀ i, i < n → f i = g i)) w := by
  obtain ⟨i, hi'⟩ : ∃ i, P.info? e = some i := by
    cases hq : P.info? e with
    | none => simp [hq] at hi
    | some i => exact ⟨i, rfl⟩
  rw [show (10000 : Nat) = 9998 + 1 + 1 from rfl, run_equalIn_array w (9998 + 1) (va n (iv .u8 f)) (va n (iv .u8 g)) ht hi', hc,
    run_items 9998 he (fun i => ((f i : Nat) : Int)) (fun i => ((g i : Nat) : Int)) (va n (iv .u8 f)) (va n (iv .u8 g)) _ (fun i hi => ⟨va_at (iv .u8 f) (by simpa using hi), va_at (iv .u8 g) (by simpa using hi)⟩)]
  congr 1
  rw [Bool.eq_iff_iff, List.all_eq_true, decide_eq_true_eq]
  constructor
  · intro h i hi
    have := h i (by simpa using hi)
    simp only [beq_iff_eq] at this
    omega
  · intro h i hi
    have := h i (by simpa using hi)
    simp [this]
end
/-- two blocks are the same -/
abbrev bkSame (f g : Nat → Nat) : Prop := ∀ i, i < 256 → f i = g i
theorem eq_bk (t : TypeId) (ht : Tryz.prog.underlying t = some (.array 256 5)) (f g : Nat → Nat) (w : World) : (Op.equalIn 10000 t (bkV f) (bkV g)).run Tryz.prog w = .ok (decide (bkSame f g)) w :=
  eq_bytes t 5 256 ht Tryz.underlying5 (by kernel_rfl) (by kernel_rfl) f g w
theorem sizeBk : (Tryz.prog.info? 58).map (·.size) = some 256 := by kernel_rfl
theorem ksizeU8 : (Tryz.prog.info? 5).map (·.size) = some 1 := by kernel_rfl
theorem zero_bk (w : World) : (zeroValue 58).run Tryz.prog w = .ok (.agg (va 256 (iv .u8 fun _ => 0))) w := by
  have h : (Tryz.prog.info? 58).bind (·.zero) = some (.agg (va 256 (iv .u8 fun _ => 0))) := by kernel_rfl
  cases hq : Tryz.prog.info? 58 with
  | none => simp [hq] at h
  | some i =>
    have hi : i.zero = some (.agg (va 256 (iv .u8 fun _ => 0))) := by simpa [hq] using h
    simp [zeroValue, typeInfo, hq, hi]
theorem Blk.new1 (w : World) (o : Obj) (t : TypeId) (cs : Array Value) : Blk ((w.alloc o).alloc (.cells cs t)) (w.heap.size + 1) t cs := by
  have := Blk.new (w.alloc o) t cs
  rwa [show (w.alloc o).heap.size = w.heap.size + 1 by simp] at this
theorem Blk.new2 (w : World) (o o' : Obj) (t : TypeId) (cs : Array Value) : Blk (((w.alloc o).alloc o').alloc (.cells cs t)) (w.heap.size + 2) t cs := by
  have := Blk.new1 (w.alloc o) o' t cs
  rwa [show (w.alloc o).heap.size + 1 = w.heap.size + 2 by simp] at this
theorem below_new1 (w : World) (o : Obj) : Below w.heap.size w (w.alloc o) := (Below.refl _ _).alloc (Nat.le_refl _) _
theorem below_new2 (w : World) (o o' : Obj) : Below w.heap.size w ((w.alloc o).alloc o') := (below_new1 w o).alloc (by simp) _
theorem below_new3 (w : World) (o o' o'' : Obj) : Below w.heap.size w (((w.alloc o).alloc o').alloc o'') := (below_new2 w o o').alloc (by simp; omega) _
theorem wpList_load_rowg {P : Program} {ops : Array Oper} {rest : List Oper} {o : Oper} {a : Act} {w : World} {Q : Exit → Act → World → Prop} (hw : Region.wanted o (yielded ops a.tmps) = true) (ty : TypeId) (x : Operand) (ho : o.op = .load ty x)
    (g : Nat) (hx : a.eval x = .pointer (some ⟨g, 0, none⟩)) (t : TypeId) (cs : Array Value) (fr : Nat × Nat) (d : TypeDesc) (hg : w.heap[g]? = some (.cells cs t fr))
    (hu : P.underlying ty = some d) (hd : (match d with | .struct _ | .array _ _ => true | _ => false) = true) (hi : (P.info? ty).map (·.size) = some cs.size)
    (h : wpList P ops Q rest (a.put o.dst (.agg cs)) w) : wpList P ops Q (o :: rest) a w :=
  wpList_step fun K hK => by
    rw [if_pos hw]
    exact wp_load_row ty x ho g hx t cs fr d hg hu hd hi (hK _ _ h)
theorem results_row2 {P : Program} {fn : Func} {p u : Tmp} {ty : TypeId} (h : fn.results = #[.cell p ty, .tmp u]) (tmps : Array Value) (w : World) (g : Nat) (t : TypeId) (cs : Array Value) (fr : Nat × Nat) (d : TypeDesc)
    (hp : tmps.getD p undef = .pointer (some ⟨g, 0, none⟩)) (hg : w.heap[g]? = some (.cells cs t fr))
    (hu : P.underlying ty = some d) (hd : (match d with | .struct _ | .array _ _ => true | _ => false) = true) (hi : (P.info? ty).map (·.size) = some cs.size) :
    (results fn tmps).run P w = .ok (.tuple #[.agg cs, tmps.getD u undef]) w := by
  have hp' : tmps[p]?.getD undef = .pointer (some ⟨g, 0, none⟩) := by simpa using hp
  simp [results_cell_tmp h, hp', asAddr, run_loadVar_row w g t ty cs fr d hg hu hd hi]
end Go.Proofs.YtbcgpiocigjkoaaGreat

namespace Go.Proofs.YtbcgpiocigjkoaaGreat
open Go Go.RowKit
set_option linter.unusedVariables false

theorem kown_mono {w : World} {B B' e size n : Nat} {v : Value} {xs : List Value} (h : w.ownsRow B e size v n xs) (hB : B' ≤ B) : w.ownsRow B' e size v n xs :=
  ⟨h.1, h.2.imp id fun ⟨g, cap, cur, a, b, r⟩ => ⟨g, cap, cur, a, Nat.le_trans hB b, r⟩⟩
theorem kown_below {w w' : World} {B e size n : Nat} {v : Value} {xs : List Value} (h : w.ownsRow B e size v n xs) (hb : Below w.heap.size w w') : w'.ownsRow B e size v n xs := by
  refine ⟨h.1, ?_⟩
  rcases h.2 with hn | ⟨g, cap, cur, rfl, hg, hgg, rest⟩
  · exact .inl hn
  · exact .inr ⟨g, cap, cur, rfl, hg, (hb.block g (Array.getElem?_eq_some_iff.1 hgg).1).trans hgg, rest⟩
theorem kown_kept {w w' : World} {B e size n : Nat} {v : Value} {xs : List Value} (h : w.ownsRow B e size v n xs) (hk : ∀ k, B ≤ k → v.ownBlock = some k → w'.heap[k]? = w.heap[k]?) : w'.ownsRow B e size v n xs := by
  refine ⟨h.1, ?_⟩
  rcases h.2 with hn | ⟨g, cap, cur, rfl, hg, hgg, rest⟩
  · exact .inl hn
  · exact .inr ⟨g, cap, cur, rfl, hg, (hk g hg rfl).trans hgg, rest⟩
end Go.Proofs.YtbcgpiocigjkoaaGreat

namespace Go.Proofs.YtbcgpiocigjkoaaGreat
open Go Go.RowKit
set_option linter.unusedSimpArgs false
set_option linter.unusedVariables false

def sumD (f : Nat → Nat) : Vector Nat 32 := Vector.ofFn fun i : Fin 32 => f i.1
theorem dF_sumD (f : Nat → Nat) (i : Nat) (hi : i < 32) : dF (sumD f) i = f i := by
  unfold dF sumD
  simp [hi]
theorem va_extract (n o m : Nat) (f : Nat → Value) (h : o + m ≤ n) : (va n f).extract o (o + m) = va m fun i => f (o + i) := by
  refine va_ext (by rw [Array.size_extract, va_size]; omega) fun i hi => ?_
  rw [Array.getElem?_extract, va_size]
  rw [if_pos (by omega)]
  exact va_at f (by omega)
def rfF (a : Nat) (d : Vector Nat 32) : Nat → Value := fun i => if i = 0 then .int .u32 ((a : Nat) : Int) else .int .u8 ((dF d (i - 1) : Nat) : Int)
theorem rf_sum (a : Nat) (d : Vector Nat 32) : (va 32 fun i => rfF a d (1 + i)) = va 32 (iv .u8 (dF d)) := va_congr fun i _ => by
  unfold rfF iv
  rw [if_neg (by omega), show 1 + i - 1 = i by omega]
theorem size_at (t n : Nat) (h : (Tryz.prog.info? t).map (·.size) = some n) (w : World) : (sizeOf t).run Tryz.prog w = .ok n w := by
  cases hq : Tryz.prog.info? t with
  | none => simp [hq] at h
  | some i =>
    have hi : i.size = n := by simpa [hq] using h
    simp [sizeOf, typeInfo, hq, hi]
theorem slSizeRef : (Tryz.prog.info? 26).map (·.size) = some 33 := by kernel_rfl
theorem sizeSm : (Tryz.prog.info? 24).map (·.size) = some 32 := by kernel_rfl
theorem part_sum (a : Nat) (d : Vector Nat 32) (w : World) : (part 24 (va 33 (rfF a d)) 1).run Tryz.prog w = .ok (dK d) w := by
  have e : (va 33 (rfF a d)).extract 1 (1 + 32) = va 32 (iv .u8 (dF d)) := by
    rw [va_extract 33 1 32 _ (by decide), rf_sum]
  simp [part, isAgg, run_underlying Tryz.underlying24, size_at _ _ sizeSm]
  unfold dK
  rw [← e]
theorem part_int (t : TypeId) (k : IntKind) (h : Tryz.prog.underlying t = some (.int k)) (cs : Array Value) (o : Nat) (v : Value) (hv : cs[o]? = some v) (w : World) : (part t cs o).run Tryz.prog w = .ok v w := by
  simp [part, isAgg, run_underlying h, hv]
set_option maxRecDepth 100000 in
theorem eq_digAt (d : Nat) (t : TypeId) (ht : Tryz.prog.underlying t = some (.array 32 5)) (a b : Vector Nat 32) (w : World) : (Op.equalIn (d + 1 + 1) t (dK a) (dK b)).run Tryz.prog w = .ok (decide (a = b)) w := by
  obtain ⟨i, hi⟩ : ∃ i, Tryz.prog.info? 5 = some i := Option.isSome_iff_exists.1 (by kernel_rfl)
  have hc : Tryz.prog.cellsOf 5 = 1 := by kernel_rfl
  unfold dK
  rw [run_equalIn_array w (d + 1) (va 32 (iv .u8 (dF a))) (va 32 (iv .u8 (dF b))) ht hi, hc,
    run_items d Tryz.underlying5 (fun i => ((dF a i : Nat) : Int)) (fun i => ((dF b i : Nat) : Int)) (va 32 (iv .u8 (dF a))) (va 32 (iv .u8 (dF b))) _ (fun i hi => ⟨va_at (iv .u8 (dF a)) (by simpa using hi), va_at (iv .u8 (dF b)) (by simpa using hi)⟩)]
  congr 1
  rw [Bool.eq_iff_iff, List.all_eq_true, decide_eq_true_eq]
  constructor
  · intro h
    refine dF_inj fun i hi => ?_
    have := h i (by simpa using hi)
    simp only [beq_iff_eq] at this
    omega
  · rintro rfl i _
    simp
/-- two structs of two fields compared -/
theorem run_eq_two {P : Program} {w : World} {d : Nat} {t t1 t2 o1 o2 : Nat} {cs ds : Array Value} {x1 y1 x2 y2 : Value} {b1 b2 : Bool} (hu : P.underlying t = some (.struct (P.fieldsOf t))) (hp : P.stoodInHeld t = false)
    (hf : (P.fieldsOf t).toList.map (fun f => (f.name == "_", f.type, f.offset)) = [(false, t1, o1), (false, t2, o2)])
    (p1 : (part t1 cs o1).run P w = .ok x1 w) (q1 : (part t1 ds o1).run P w = .ok y1 w) (p2 : (part t2 cs o2).run P w = .ok x2 w) (q2 : (part t2 ds o2).run P w = .ok y2 w)
    (h1 : (Op.equalIn d t1 x1 y1).run P w = .ok b1 w) (h2 : (Op.equalIn d t2 x2 y2).run P w = .ok b2 w) : (Op.equalIn (d + 1) t (.agg cs) (.agg ds)).run P w = .ok (b1 && b2) w := by
  rw [run_equalIn_struct w d t cs ds hu hp]
  obtain ⟨f, l1, e1, hf1, hl1⟩ := List.map_eq_cons_iff.1 hf
  obtain ⟨g, l2, e2, hg1, hl2⟩ := List.map_eq_cons_iff.1 hl1
  have e3 := List.map_eq_nil_iff.1 hl2
  subst e3 e2
  rw [e1]
  simp only [Prod.mk.injEq] at hf1 hg1
  obtain ⟨n1, rfl, rfl⟩ := hf1
  obtain ⟨n2, rfl, rfl⟩ := hg1
  have n1' : f.name ≠ "_" := by simpa using n1
  have n2' : g.name ≠ "_" := by simpa using n2
  unfold Op.eqFields
  rw [if_pos n1']
  unfold Op.eqFields
  rw [if_pos n2']
  simp only [Sem.run_bind, p1, q1, Result.andThen_ok, h1]
  cases b1
  · simp
  · simp only [Bool.not_true, Bool.false_eq_true, if_false, Sem.run_bind, p2, q2, Result.andThen_ok, h2]
    cases b2
    · simp
    · simp [Op.eqFields]
theorem eq_root (d : Nat) (a b : Nat) (x y : Vector Nat 32) (w : World) : (Op.equalIn (d + 1 + 1 + 1) 26 (.agg (va 33 (rfF a x))) (.agg (va 33 (rfF b y)))).run Tryz.prog w = .ok (decide ((a, x) = (b, y))) w := by
  have h1 : (Op.equalIn (d + 1 + 1) 22 (.int .u32 (a : Int)) (.int .u32 (b : Int))).run Tryz.prog w = .ok ((a : Int) == (b : Int)) w := by simp [Op.equalIn, run_underlying Tryz.underlying22]
  have h2 := eq_digAt d 24 Tryz.underlying24 x y w
  have hd : decide ((a, x) = (b, y)) = (((a : Int) == (b : Int)) && decide (x = y)) := by
    rw [Bool.eq_iff_iff]
    simp only [decide_eq_true_eq, Bool.and_eq_true, beq_iff_eq, Prod.mk.injEq]
    constructor
    · rintro ⟨h, k⟩
      exact ⟨by omega, k⟩
    · rintro ⟨h, k⟩
      exact ⟨by omega, k⟩
  rw [hd]
  have p1 : (part 22 (va 33 (rfF a x)) 0).run Tryz.prog w = .ok (.int .u32 ((a : Nat) : Int)) w := part_int _ _ Tryz.underlying22 _ _ _ (va_at (rfF a x) (by decide)) w
  have q1 : (part 22 (va 33 (rfF b y)) 0).run Tryz.prog w = .ok (.int .u32 ((b : Nat) : Int)) w := part_int _ _ Tryz.underlying22 _ _ _ (va_at (rfF b y) (by decide)) w
  have p2 := part_sum a x w
  have q2 := part_sum b y w
  generalize va 33 (rfF a x) = cs at *
  generalize va 33 (rfF b y) = ds at *
  have hu : Tryz.prog.underlying 26 = some (.struct (Tryz.prog.fieldsOf 26)) := by kernel_rfl
  have hp : Tryz.prog.stoodInHeld 26 = false := by kernel_rfl
  have hf : (Tryz.prog.fieldsOf 26).toList.map (fun f => (f.name == "_", f.type, f.offset)) = [(false, 22, 0), (false, 24, 1)] := by kernel_rfl
  exact run_eq_two hu hp hf p1 q1 p2 q2 h1 h2
end Go.Proofs.YtbcgpiocigjkoaaGreat

namespace Go.Proofs.YtbcgpiocigjkoaaGreat
open Go.RowKit
set_option linter.unusedSimpArgs false
set_option linter.unusedVariables false

def Fit (a m : Int) : Prop := 0 ≤ a ∧ 0 ≤ m ∧ a ≤ 256 - m
instance (a m : Int) : Decidable (Fit a m) := by unfold Fit; infer_instance

end Go.Proofs.YtbcgpiocigjkoaaGreat

namespace Go.Proofs.YtbcgpiocigjkoaaGreat
open Go Go.RowKit
set_option linter.unusedVariables false

theorem kblk_range {w : World} {g t n : Nat} {f : Nat → Value} (h : Blk w g t (va n f)) : w.rangeAt g 0 ((List.range n).map f) := fun j v hv => by
  refine h.range 0 n (by omega) j v ?_
  rw [← hv]
  simp
theorem kyields_load {P : Program} {ops : Array Oper} {S : World → Prop} {op : Oper} {a : Act} (hw : Region.wanted op (yielded ops a.tmps) = true) (ty : TypeId) (x : Operand) (ho : op.op = .load ty x)
    (b n : Nat) (f : Nat → Value) (hx : a.eval x = .pointer (some ⟨b, 0, none⟩)) (d : TypeDesc) (t : Nat) (hS : ∀ w, S w → Blk w b t (va n f))
    (hu : P.underlying ty = some d) (hd : d.isRow = true) (hi : (P.info? ty).map (·.size) = some n) : YieldsIf P ops S op (.agg (va n f)) a :=
  yieldsIf_load_mid hw ty x ho b 0 hx _ d (fun w h => kblk_range (hS w h)) hu hd (hi.trans (by simp))
end Go.Proofs.YtbcgpiocigjkoaaGreat

namespace Go.Proofs.YtbcgpiocigjkoaaGreat
open Go Go.RowKit
set_option linter.unusedVariables false

/-- the slice at a of n blocks, told by L -/
def IsBlks (w : World) (a : Option Addr) (n : Nat) (L : Nat → Nat → Nat) : Prop :=
  ∀ i, i < n → ∃ b o, a = some ⟨b, o, none⟩ ∧ b < w.heap.size ∧ w.rangeAt b (o + i * 256) ((List.range 256).map (iv .u8 (L i)))
theorem range_below {w w' : World} {B b o : Nat} {cs : List Value} (h : w.rangeAt b o cs) (hb : Below B w w') (hB : b < B) : w'.rangeAt b o cs := fun j v hv => by
  rw [← h j v hv]
  simp [World.cell?, hb.block b hB]
theorem IsBlks.below {w w' : World} {a : Option Addr} {n : Nat} {L : Nat → Nat → Nat} (h : IsBlks w a n L) (hb : Below w.heap.size w w') : IsBlks w' a n L := fun i hi => by
  obtain ⟨b, o, e, h1, h2⟩ := h i hi
  exact ⟨b, o, e, Nat.lt_of_lt_of_le h1 hb.size, range_below h2 hb h1⟩
end Go.Proofs.YtbcgpiocigjkoaaGreat

namespace Go.Proofs.YtbcgpiocigjkoaaGreat
open Go.RowKit
set_option linter.unusedSimpArgs false
set_option linter.unusedVariables false

theorem infoBk : (Tryz.prog.info? 58).map (fun i => (i.zero, i.size, i.bytes)) = some (some (.agg (va 256 (iv .u8 fun _ => 0))), 256, 256) := by kernel_rfl

/-- a block of a slice, loaded -/
theorem wpList_load_blk {P : Program} {ops : Array Oper} {rest : List Oper} {op : Oper} {a : Act} {w : World} {Q : Exit → Act → World → Prop} (hgd : op.guard = none) (ty : TypeId) (x : Operand) (ho : op.op = .load ty x)
    (b o n : Nat) (f : Nat → Value) (hx : a.eval x = .pointer (some ⟨b, o, none⟩)) (d : TypeDesc) (hc : w.rangeAt b o ((List.range n).map f))
    (hu : P.underlying ty = some d) (hd : d.isRow = true) (hi : (P.info? ty).map (·.size) = some n)
    (h : wpList P ops Q rest (a.put op.dst (.agg (va n f))) w) : wpList P ops Q (op :: rest) a w :=
  wpList_load_mid hgd ty x ho b o hx _ d hc hu hd (hi.trans (by simp)) h
end Go.Proofs.YtbcgpiocigjkoaaGreat

namespace Go.Proofs.YtbcgpiocigjkoaaGreat
open Go Go.RowKit
set_option linter.unusedSimpArgs false
set_option linter.unusedVariables false

theorem tbyte_get (s : ByteArray) (i : Nat) (h : i < s.size) : tbyte s i = s[i].toNat := by
  have h' : i < s.data.size := h
  simp [tbyte, List.getD]
  rw [Array.getElem?_eq_getElem h']; rfl
def at4 (s : ByteArray) (a : Nat) : Nat := le4 (tbyte s a) (tbyte s (a + 1)) (tbyte s (a + 2)) (tbyte s (a + 3))
set_option maxHeartbeats 400000 in
theorem there_yes (s : ByteArray) (a k : Nat) (hs : s.size ≤ maxLen) (hk : k ≤ 8) (h : a + k ≤ s.size) (w : World) :
    Calls Tryz.prog 220 #[.string s, .int .i64 (a : Int), .int .i64 (k : Int)] w fun e w' => e = .returned (.bool true) ∧ w' = w := by
  unfold maxLen at hs
  have e1 : decide ((a : Int) ≤ (s.size : Int) - (k : Int)) = true := by simp; omega
  go_enter Tryz.func220, Tryz.ntmps220
  go_wp2
  go_ret
  exact ⟨by simp, rfl⟩
set_option maxHeartbeats 1000000 in
theorem take32_yes (s : ByteArray) (a : Nat) (hs : s.size ≤ maxLen) (h : a + 4 ≤ s.size) (w : World) :
    Calls Tryz.prog 223 #[.string s, .int .i64 (a : Int)] w fun e w' => e = .returned (.tuple #[.int .u32 (at4 s a : Int), .bool true]) ∧ Below w.heap.size w w' := by
  have hs' := hs
  unfold maxLen at hs
  have HE : Hid (at4 s a = le4 s[a].toNat s[a + 1].toNat s[a + 2].toNat s[a + 3].toNat) := by
    show at4 s a = le4 s[a].toNat s[a + 1].toNat s[a + 2].toNat s[a + 3].toNat
    unfold at4; rw [tbyte_get s a (by omega), tbyte_get s (a + 1) (by omega), tbyte_get s (a + 2) (by omega), tbyte_get s (a + 3) (by omega)]
  go_enter Tryz.func223, Tryz.ntmps223
  go_wp2_with fail
  refine (there_yes s a 4 hs' (by decide) h _).mono ?_
  rintro e w' ⟨rfl, rfl⟩
  go_wp2
  refine wp_loop_rounds 5 ?_
  rw [rounds_succ]
  go_wp2
  rw [rounds_succ]
  go_wp2
  rw [rounds_succ]
  go_wp2
  rw [rounds_succ]
  go_wp2
  rw [rounds_succ]
  go_wp2_with fail
  refine (of32_any _ _ _ _ (UInt8.toNat_lt _) (UInt8.toNat_lt _) (UInt8.toNat_lt _) (UInt8.toNat_lt _) _).mono ?_
  rintro e w1 ⟨rfl, hb⟩
  go_wp2
  go_ret2
  rw [HE.out]
  refine ⟨rfl, ?_⟩
  exact ((Below.refl _ _).alloc (Nat.le_refl _) _).trans (hb.mono (by simp))
end Go.Proofs.YtbcgpiocigjkoaaGreat

namespace Go.Proofs.YtbcgpiocigjkoaaGreat
open Go Go.RowKit
set_option linter.unusedSimpArgs false
set_option linter.unusedVariables false

/-- a reference, as a plain thing -/
abbrev Rf := Nat × Vector Nat 32
def rfC (r : Rf) : Array Value := va 33 (rfF r.1 r.2)
def rf0 : Rf := (0, Vector.replicate 32 0)
theorem rfC_size (r : Rf) : (rfC r).size = 33 := va_size _ _
theorem rfF_one (a : Nat) (d : Vector Nat 32) (i : Nat) : (rfF a d i).oneCell' = true := by
  unfold rfF
  split <;> rfl
theorem rfC_all (r : Rf) : (rfC r).all (·.oneCell') = true := va_one fun i _ => rfF_one _ _ _
/-- is a reference right? -/
def rOk (r : Rf) : Bool := decide (r = rf0) || decide (r.1 ≠ 0)
theorem zero_of {t : TypeId} {v : Value} (h : (Tryz.prog.info? t).bind (·.zero) = some v) (w : World) : (zeroValue t).run Tryz.prog w = .ok v w := by
  cases hq : Tryz.prog.info? t with
  | none => simp [hq] at h
  | some i =>
    have hi : i.zero = some v := by simpa [hq] using h
    simp [zeroValue, typeInfo, hq, hi]
theorem zero_ref (w : World) : (zeroValue 26).run Tryz.prog w = .ok (.agg (rfC rf0)) w := zero_of (by kernel_rfl) w
theorem part_agg (t n : Nat) (u : TypeDesc) (hu : Tryz.prog.underlying t = some u) (hd : u.isRow = true) (hs : (Tryz.prog.info? t).map (·.size) = some n) (cs ds : Array Value) (o : Nat) (he : cs.extract o (o + n) = ds) (w : World) : (part t cs o).run Tryz.prog w = .ok (.agg ds) w := by
  cases u <;> simp [TypeDesc.isRow] at hd <;> simp [part, isAgg, run_underlying hu, size_at _ _ hs, he]
/-- two references compared -/
theorem eq_ref (d : Nat) (a b : Rf) (w : World) : (Op.equalIn (d + 1 + 1 + 1) 26 (.agg (rfC a)) (.agg (rfC b))).run Tryz.prog w = .ok (decide (a = b)) w := eq_root d a.1 b.1 a.2 b.2 w
/-- texts one behind the other -/
theorem tbyte_append (s t : ByteArray) (j : Nat) : tbyte (s ++ t) j = if j < s.size then tbyte s j else tbyte t (j - s.size) := by
  have hs : s.data.toList.length = s.size := Array.length_toList
  have e : (s ++ t).data.toList = s.data.toList ++ t.data.toList := by
    rw [ByteArray.data_append, Array.toList_append]
  unfold tbyte
  rw [e, List.getD_eq_getElem?_getD]
  by_cases h : j < s.size
  · rw [if_pos h, List.getElem?_append_left (by omega), List.getD_eq_getElem?_getD]
  · rw [if_neg h, List.getElem?_append_right (by omega), List.getD_eq_getElem?_getD, hs]
theorem strN_append (f : Nat → Nat) (a b : Nat) (hf : ∀ j, j < a + b → f j < 256) : strN f a ++ strN (fun j => f (a + j)) b = strN f (a + b) := by
  refine text_ext (by rw [ByteArray.size_append, strN_size, strN_size, strN_size]) fun j hj => ?_
  rw [ByteArray.size_append, strN_size, strN_size] at hj
  rw [tbyte_append, strN_size, strN_at f (a + b) j hj (hf j hj)]
  by_cases h : j < a
  · rw [if_pos h, strN_at f a j h (hf j (by omega))]
  · rw [if_neg h]
    have e : a + (j - a) = j := by omega
    rw [strN_at _ b (j - a) (by omega) (by rw [e]; exact hf j hj), e]
/-- a reference's bytes -/
def encR (r : Rf) : Nat → Nat := fun j => if j < 4 then dig r.1 j else dF r.2 (j - 4)
/-- a digest of bytes -/
def okD (d : Vector Nat 32) : Prop := ∀ i, i < 32 → dF d i < 256
theorem encR_lt (r : Rf) (hr : okD r.2) (j : Nat) (hj : j < 36) : encR r j < 256 := by
  unfold encR
  split
  · exact dig_lt _ _
  · exact hr _ (by omega)
theorem okD_zero : okD (Vector.replicate 32 0) := fun i hi => by
  unfold dF
  simp [hi]
end Go.Proofs.YtbcgpiocigjkoaaGreat

namespace Go.Proofs.YtbcgpiocigjkoaaGreat
open Go Go.RowKit

section
variable {P : Program} {ops : Array Oper} {Q : Exit → Act → World → Prop} {md : Region.Mode} {Wl : List Nat} {S : World → Prop}

theorem takeS_gen {i fuel : Nat} {o : Oper} {v : Value} {listed : Array Bool} {a : Act} {w : World} (hs : Region.noSelect ops = true) (hi : ops[i]? = some o) (hr : (Region.ready md ops listed).contains i = true)
    (hf : Region.free md ops listed i = true) (hWi : Wl.contains i = false) (hwait : waitW md ops listed i Wl (waitArr md ops listed i) = true) (hy : YieldsIf P ops S o v a) (hS : S w)
    (hK : wpAnyW P md ops (Strict Q) S (Wl.contains ·) fuel (listed.setIfInBounds i true) (a.put o.dst v) w) :
    wpAnyW P md ops (Strict Q) S (Wl.contains ·) (fuel + 1) listed a w := by
  generalize hwt : waitArr md ops listed i = arr at hwait
  unfold waitW at hwait
  rw [List.all_eq_true] at hwait
  have hall : ∀ j oj, ops[j]? = some oj → (if arr.getD j false then (j == i || oj.after.any fun e => Region.binds md e && arr.getD e.on false && decide (e.on < ops.size)) && !listed.getD j true else !Wl.contains j) = true := fun j oj hj => by
    have h1 := hwait j (List.mem_range.2 (Array.getElem?_eq_some_iff.1 hj).1)
    rw [hj] at h1; exact h1
  have hin : ∀ j, decide (j < ops.size) = true → ∃ oj, ops[j]? = some oj := fun j hj => ⟨_, Array.getElem?_eq_getElem (of_decide_eq_true hj)⟩
  refine wpAnyW_take hi (Region.noSelect_spec hs) (fun j => arr.getD j false && decide (j < ops.size)) (v := v) (strict_frame _ _) ?_ ?_ hWi fuel listed a w (Region.free_spec hi hf) ?_ (by simpa using hr) hy hS hK
  · intro j oj hj hw hne
    simp only [Bool.and_eq_true] at hw
    have h1 := hall j oj hj
    rw [if_pos hw.1] at h1
    simp only [Bool.and_eq_true, Bool.or_eq_true, beq_iff_eq, hne, false_or] at h1
    obtain ⟨e, he, hb⟩ := Array.any_eq_true'.1 h1.1
    simp only [Bool.and_eq_true] at hb
    exact ⟨e, he, hb.1.1, by simp only [Bool.and_eq_true]; exact ⟨hb.1.2, hb.2⟩⟩
  · intro j oj hj hw
    have hlt : decide (j < ops.size) = true := decide_eq_true (Array.getElem?_eq_some_iff.1 hj).1
    have h1 := hall j oj hj
    cases hq : arr.getD j false with
    | true => rw [hlt]; rfl
    | false => rw [if_neg (by rw [hq]; decide), hw] at h1; cases h1
  · intro j hw
    simp only [Bool.and_eq_true] at hw
    obtain ⟨oj, hj⟩ := hin j hw.2
    have h1 := hall j oj hj
    rw [if_pos hw.1] at h1
    simp only [Bool.and_eq_true, Bool.not_eq_true'] at h1
    exact h1.2

theorem forceS_step {i fuel : Nat} {listed : Array Bool} {a : Act} {w : World} (hb : forceW md ops listed i = true)
    (h : wpOp P ops (Strict Q) i (fun a' w' => (Wl.contains i = false → S w') ∧ wpAnyW P md ops (Strict Q) S (Wl.contains ·) fuel (listed.setIfInBounds i true) a' w') a w) :
    wpAnyW P md ops (Strict Q) S (Wl.contains ·) (fuel + 1) listed a w := by
  unfold forceW at hb
  simp only [Bool.and_eq_true, beq_iff_eq] at hb
  refine ⟨fun h0 => absurd (hb.1.symm.trans h0) (by simp), ?_⟩
  rw [hb.1]
  intro j hj
  have : j = i := by simpa using hj
  subst this; exact h

theorem takeS_step {i fuel : Nat} {listed : Array Bool} {a : Act} {w : World} (hs : Region.noSelect ops = true) (hb : takeW md ops listed Wl [] i = true) (hS : S w)
    (h : wpOp P ops (Strict Q) i (fun a' w' => S w' → wpAnyW P md ops (Strict Q) S (Wl.contains ·) fuel (listed.setIfInBounds i true) a' w') a w) :
    wpAnyW P md ops (Strict Q) S (Wl.contains ·) (fuel + 1) listed a w := by
  unfold takeW at hb
  cases hi : ops[i]? with
  | none => rw [hi] at hb; cases hb
  | some o =>
    rw [hi] at hb
    simp only [Bool.and_eq_true, Bool.or_eq_true, Bool.not_eq_true'] at hb
    obtain ⟨⟨⟨⟨hr, hf⟩, hWi⟩, hk⟩, hwait⟩ := hb
    have key : ∃ v, wpAnyW P md ops (Strict Q) S (Wl.contains ·) fuel (listed.setIfInBounds i true) (a.put o.dst v) w ∧ YieldsIf P ops S o v a := by
      unfold wpOp at h
      simp only [hi] at h
      by_cases hw : Region.wanted o (yielded ops a.tmps) = true
      · simp only [hw, if_true] at h
        rcases h with h | ⟨_, h⟩
        · unfold Oper.wp at h
          have hrun : ∃ v, (execOp a.eval o).run P w = .ok (.value v) w ∧ ∀ w', S w' → (execOp a.eval o).run P w' = .ok (.value v) w' := by
            cases hsr : (execOp a.eval o).run P w with
            | ok n w1 =>
              rcases hk with hk | hk
              · obtain ⟨hp, hv⟩ := kindV_run (P := P) hk a.eval
                obtain ⟨v, rfl⟩ := hv _ _ _ hsr
                obtain ⟨rfl, h2⟩ := hp _ _ _ hsr
                exact ⟨v, rfl, fun w' _ => h2 w'⟩
              · obtain ⟨t, x, hop, hx⟩ := lowLoad_run hk
                cases hx
            | halt y w1 =>
              rw [hsr] at h
              cases y <;> simp only [Oper.upon, Strict] at h <;> first | exact absurd h.1 (by intro e; cases e) | exact h.elim
          obtain ⟨v, h1, h2⟩ := hrun
          rw [h1, Oper.upon_value] at h
          exact ⟨v, h hS, .inl ⟨hw, h2⟩⟩
        · exact absurd h Strict.noOut
      · rw [Bool.not_eq_true] at hw
        simp only [hw, Bool.false_eq_true, if_false] at h
        exact ⟨undef, h hS, .inr ⟨hw, rfl⟩⟩
    obtain ⟨v, hK, hy⟩ := key
    exact takeS_gen hs hi hr hf hWi hwait hy hS hK

theorem takesS_step (hs : Region.noSelect ops = true) (more : List Nat) (fuel : Nat) (Q' : Exit → Act → World → Prop) :
    ∀ (ts : List Nat) (listed l2 : Array Bool) (a : Act) (w : World), takesB md ops Wl [] ts listed = some l2 →
      (∀ a' w', S w' → wpList P ops (Strict Q') (more.filterMap fun i => ops[i]?) a' w' → wpAnyW P md ops (Strict Q) S (Wl.contains ·) fuel l2 a' w') →
      S w → wpList P ops (Strict Q') ((ts ++ more).filterMap fun i => ops[i]?) a w →
      wpAnyW P md ops (Strict Q) S (Wl.contains ·) (ts.length + fuel) listed a w := by
  intro ts
  induction ts with
  | nil =>
    intro listed l2 a w hb hn hS h
    simp only [takesB, Option.some.injEq] at hb
    subst hb
    rw [List.length_nil, Nat.zero_add]
    exact hn a w hS h
  | cons i rest ih =>
    intro listed l2 a w hb hn hS h
    unfold takesB at hb
    split at hb
    · rename_i hc
      have hlen : (i :: rest).length + fuel = (rest.length + fuel) + 1 := by simp only [List.length_cons]; omega
      rw [hlen]
      obtain ⟨o, ho⟩ := has_op hc
      refine takeS_step hs hc hS (wpOp_mono (fun a' w' h' h2 => ?_) (wpOp_strict (wpList_one ho h)))
      exact ih _ l2 a' w' hb hn h2 h'
    · cases hb

theorem tailS_step : ∀ (ts : List Nat) (listed : Array Bool) (a : Act) (w : World), tailB md ops Wl ts listed = true → wpList P ops (Strict Q) (ts.filterMap fun i => ops[i]?) a w →
    wpAnyW P md ops (Strict Q) S (Wl.contains ·) ts.length listed a w
  | [], listed, a, w, hb, h => ⟨by simpa [tailB] using hb, h⟩
  | i :: rest, listed, a, w, hb, h => by
    simp only [tailB, Bool.and_eq_true] at hb
    obtain ⟨o, ho⟩ := has_op' hb.1.1
    refine forceS_step hb.1.1 (wpOp_mono (fun a' w' h' => ?_) (wpList_one ho h))
    exact ⟨fun e => (by rw [hb.1.2] at e; cases e), tailS_step rest _ a' w' hb.2 h'⟩

theorem partsS_step (hs : Region.noSelect ops = true) (takes tail : List Nat) :
    ∀ (ps : List (List Nat × Nat × Bool)) (listed : Array Bool) (a : Act) (w : World), partsB md ops Wl [] ps takes tail listed = true → S w →
      wpPartsI P ops Q S ps (takes ++ tail) a w → wpAnyW P md ops (Strict Q) S (Wl.contains ·) (lenOf ps (takes.length + tail.length)) listed a w
  | [], listed, a, w, hb, hS, h => by
    unfold partsB at hb
    split at hb
    · rename_i l2 hl2
      exact takesS_step hs tail tail.length Q takes listed l2 a w hl2 (fun a' w' _ h' => tailS_step tail l2 a' w' hb h') hS h
    · cases hb
  | (ts, i, false) :: rest, listed, a, w, hb, hS, h => by
    unfold partsB at hb
    split at hb
    · rename_i l2 hl2
      simp only [Bool.and_eq_true, Bool.not_eq_true', Bool.false_eq_true, if_false] at hb
      refine takesS_step hs [i] _ _ ts listed l2 a w hl2 (fun a' w' _ h' => ?_) hS h
      obtain ⟨o, ho⟩ := has_op' hb.1.1
      rw [Nat.add_comm 1]
      refine forceS_step hb.1.1 (wpOp_mono (fun a2 w2 h2 => ?_) (wpOp_strict (wpList_one ho h')))
      have h3 := h2.2
      exact ⟨fun _ => h3.1, partsS_step hs takes tail rest _ a2 w2 hb.2 h3.1 h3.2⟩
    · cases hb
  | (ts, i, true) :: rest, listed, a, w, hb, hS, h => by
    unfold partsB at hb
    split at hb
    · rename_i l2 hl2
      simp only [Bool.and_eq_true, if_true] at hb
      refine takesS_step hs [] _ _ ts listed l2 a w hl2 (fun a' w' hS' h' => ?_) hS h
      obtain ⟨-, o, v, ho, hy, hn⟩ := h'
      have hc := hb.1
      unfold yieldW at hc
      rw [ho] at hc
      simp only [Bool.and_eq_true, Bool.not_eq_true'] at hc
      rw [Nat.add_comm 1]
      exact takeS_gen hs ho hc.1.1.1 hc.1.1.2 hc.1.2 hc.2 hy hS' (partsS_step hs takes tail rest _ _ w' hb.2 hS' hn)
    · cases hb

/-- THE LAW. -/
theorem wp_region_partsS {id : Nat} {a : Act} {w : World} (S : World → Prop) (ps : List (List Nat × Nat × Bool)) (takes tail : List Nat) (hm : P.follows .mixedOrders = true) (hB : wholeB ops tail [] ps takes tail = true)
    (hS : S w.drew) (h : wpPartsI P ops Q S ps (takes ++ tail) a w.drew) : (Code.region id ops true).wp P Q a w := by
  unfold wholeB at hB
  simp only [Bool.and_eq_true, beq_iff_eq] at hB
  refine Code.wp_mono Strict.imp (wp_region_any hm ?_)
  rw [← hB.1.1.1]
  exact wpAny_of_W _ _ _ _ (partsS_step hB.1.1.2 takes tail ps _ a _ (by rw [hB.1.1.1]; exact hB.2) hS h)
end
end Go.Proofs.YtbcgpiocigjkoaaGreat
