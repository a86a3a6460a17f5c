/- References and nodes: their cells, how two compare, their bytes. -/
import Derived.Test.YtppagdmlfgialaaGreatDoorHDigSum
import Derived.Test.YtppagdmlfgialaaGreatDoorHCollKit
import Derived.Laws.BytesArg
import Derived.Laws.ResultCell
import Derived.Handy
import Derived.ArgAppend
import Derived.Test.YtppagdmlfgialaaGreatDoorHDigRow
import Derived.OpenShut
import Derived.Deep.MidRow
import Derived.Great.BuildSlice
import Derived.OwnWalk
import Derived.Maps.AppendAt
import Derived.Lib.ConvBytes

namespace Go.Proofs.YtppagdmlfgialaaGreatDoor
set_option linter.unusedVariables false
open Go Go.RowKit

/-- a block's value -/
def bkV (f : Nat → Nat) : Value := .agg (va 256 (iv .u8 f))
/-- the byte of a text at a place -/
def tbyte (s : ByteArray) (i : Nat) : Nat := (s.data.toList.getD i 0).toNat
theorem tbyte_lt (s : ByteArray) (j : Nat) : tbyte s j < 256 := UInt8.toNat_lt _
/-- n bytes as a text -/
def strN (f : Nat → Nat) (n : Nat) : ByteArray := strOfNums ((List.range n).map fun i => (f i : Int))
theorem strN_size (f : Nat → Nat) (n : Nat) : (strN f n).size = n := by unfold strN; rw [strOfNums_size]; simp
theorem strN_at (f : Nat → Nat) (n j : Nat) (hj : j < n) (hf : f j < 256) : tbyte (strN f n) j = f j := by
  unfold tbyte strN
  rw [strOfNums_data, List.getD_eq_getElem?_getD]
  simp [hj]
  omega
theorem text_ext {s t : ByteArray} (h1 : s.size = t.size) (h2 : ∀ j, j < s.size → tbyte s j = tbyte t j) : s = t := by
  have e : s.data = t.data := by
    apply Array.ext
    · exact h1
    · intro i hi1 hi2
      have := h2 i hi1
      unfold tbyte at this
      rw [List.getD_eq_getElem?_getD, List.getD_eq_getElem?_getD, List.getElem?_eq_getElem (by simpa using hi1), List.getElem?_eq_getElem (by simpa using hi2)] at this
      have h3 : (s.data[i]).toNat = (t.data[i]).toNat := by simpa using this
      exact UInt8.toNat_inj.1 h3
  cases s; cases t; simp_all
theorem strN_congr {f g : Nat → Nat} {n : Nat} (h : ∀ j, j < n → f j = g j) : strN f n = strN g n := by
  unfold strN
  congr 1
  exact List.map_congr_left fun j hj => by rw [h j (List.mem_range.1 hj)]
theorem tbyte_extract (s : ByteArray) (a b j : Nat) (hb : b ≤ s.size) (h : a + j < b) : tbyte (s.extract a b) j = tbyte s (a + j) := by
  unfold tbyte
  have hs : s.data.toList.length = s.size := Array.length_toList
  rw [ByteArray.data_extract]
  simp only [List.getD_eq_getElem?_getD, Array.toList_extract, List.extract_eq_take_drop]
  rw [List.getElem?_take, List.getElem?_drop, if_pos (by omega)]
theorem extract_size (s : ByteArray) (a b : Nat) (hb : b ≤ s.size) : (s.extract a b).size = b - a := by
  rw [ByteArray.size_extract]
  omega
/-- n bytes as values -/
def byL (f : Nat → Nat) (m : Nat) : List Value := (List.range m).map fun j => Value.int .u8 ((f j : Nat) : Int)
theorem byL_length (f : Nat → Nat) (m : Nat) : (byL f m).length = m := by simp [byL]
theorem byL_at (f : Nat → Nat) (m j : Nat) (h : j < m) : (byL f m)[j]? = some (.int .u8 ((f j : Nat) : Int)) := by simp [byL, h]
theorem byL_succ (f : Nat → Nat) (m : Nat) : byL f (m + 1) = byL f m ++ [Value.int .u8 ((f m : Nat) : Int)] := by simp [byL, List.range_succ]
theorem byL_congr {f g : Nat → Nat} {m : Nat} (h : ∀ j, j < m → f j = g j) : byL f m = byL g m := List.map_congr_left fun j hj => by rw [h j (List.mem_range.1 hj)]
theorem byL_add (f : Nat → Nat) (m : Nat) : ∀ k, byL f (m + k) = byL f m ++ byL (fun j => f (m + j)) k
  | 0 => by simp [byL]
  | k + 1 => by rw [← Nat.add_assoc, byL_succ, byL_add f m k, byL_succ, List.append_assoc]
theorem text_prefix (s : ByteArray) (n : Nat) (h : n ≤ s.size) : List.take n (List.map (fun b : UInt8 => Value.int .u8 (b.toNat : Int)) s.data.toList) = byL (tbyte s) n := by
  have hs : s.data.toList.length = s.size := Array.length_toList
  apply List.ext_getElem?
  intro i
  by_cases hi : i < n
  · rw [byL_at _ _ _ hi, List.getElem?_take_of_lt hi, List.getElem?_map, List.getElem?_eq_getElem (by omega)]
    unfold tbyte
    rw [List.getD_eq_getElem?_getD, List.getElem?_eq_getElem (by omega)]
    rfl
  · rw [List.getElem?_eq_none (by rw [List.length_take]; omega), List.getElem?_eq_none (by rw [byL_length]; omega)]
section
variable {P : Program}
theorem run_copy_text (w : World) (dT sT ty elem : TypeId) (g o dLen dCap : Nat) (s : ByteArray) (cur : Array Value) (t : TypeId) (n : Nat)
    (hu : P.underlying dT = some (.slice elem)) (hs : (P.info? elem).map (·.size) = some 1)
    (hg : w.heap[g]? = some (.cells cur t (0, 0))) (hn : n = Nat.min s.size dLen) (hfit : o + n ≤ cur.size) :
    (Builtin.copy_ #[dT, sT] ty #[.slice (some ⟨g, o, none⟩) dLen dCap, .string s]).run P w =
      .ok (goInt n) (w.setRow g (splice cur.toList o (byL (tbyte s) n)).toArray) := by
  have hns : n ≤ s.size := by rw [hn]; exact Nat.min_le_left _ _
  have eL := text_prefix s n hns
  have hst := run_storeCells_at P g o t (List.take n (List.map (fun b : UInt8 => Value.int .u8 (b.toNat : Int)) s.data.toList)) 0 cur w hg (by rw [eL, byL_length]; simpa using hfit) (by rw [eL]; exact mem_iv_one _ _ _)
  have e2 : (w.setRow g (cur.toList.take (o + 0) ++ List.take n (List.map (fun b : UInt8 => Value.int .u8 (b.toNat : Int)) s.data.toList) ++ cur.toList.drop (o + 0 + (List.take n (List.map (fun b : UInt8 => Value.int .u8 (b.toNat : Int)) s.data.toList)).length)).toArray) = w.setRow g (splice cur.toList o (byL (tbyte s) n)).toArray := by
    rw [eL]
    unfold splice
    rw [List.append_assoc, Nat.add_zero]
  rw [e2] at hst
  cases hq : P.info? elem with
  | none => simp [hq] at hs
  | some i =>
    have hi : i.size = 1 := by simpa [hq] using hs
    generalize w.setRow g (splice cur.toList o (byL (tbyte s) n)).toArray = W at *
    simp [Builtin.copy_, run_underlying hu, Builtin.lenOf, Builtin.firstCells, sizeOf, typeInfo, hq, ← hn, hst]
/-- a text copied, as one operation -/
theorem wpList_copy_text {ops : Array Oper} {rest : List Oper} {o : Oper} {a : Act} {w : World} {Q : Exit → Act → World → Prop} (hgd : o.guard = none) (d s : Operand) (dT sT : TypeId)
    (ho : o.op = .call { callee := .builtin .copy, args := #[d, s], argTypes := #[dT, sT] }) (elem : TypeId) (hu : P.underlying dT = some (.slice elem)) (hsz : (P.info? elem).map (·.size) = some 1)
    (g off dLen dCap : Nat) (str : ByteArray) (hd : a.eval d = .slice (some ⟨g, off, none⟩) dLen dCap) (hs : a.eval s = .string str)
    (cur : Array Value) (t : TypeId) (hg : w.heap[g]? = some (.cells cur t (0, 0))) (n : Nat) (hn : n = Nat.min str.size dLen) (hfit : off + n ≤ cur.size)
    (h : wpList P ops Q rest (a.put o.dst (goInt n)) (w.setRow g (splice cur.toList off (byL (tbyte str) n)).toArray)) :
    wpList P ops Q (o :: rest) a w := by
  have hrun := run_copy_text (P := P) w dT sT o.type elem g off dLen dCap str cur t n hu hsz hg hn hfit
  refine wpList_plain hgd fun K hK => ?_
  unfold Oper.wp
  simp [execOp, ho, resolve, invoke, builtin, hd, hs, hrun, Result.andThen]
  exact hK _ _ h
theorem run_bytes_text (w : World) (src e dst : TypeId) (hs : P.underlying src = some (.slice e)) (he : P.underlying e = some (.int .u8)) (hd : P.underlying dst = some .string) {g t N : Nat} {f : Nat → Nat} (h : Blk w g t (va N (iv .u8 f))) (o n c : Nat) (hn : o + n ≤ N) :
    (convert src dst (.slice (some ⟨g, o, none⟩) n c)).run P w = .ok (.string (strN (fun j => f (o + j)) n)) w :=
  run_convert_bytes_arg w src e hs he g o n c _ (by simp) (fun i hi => by
    rw [h.cv (i := o + i) (by omega)]
    simp [List.getD_eq_getElem?_getD, hi, iv]) dst hd
theorem eq_bytes (t e : TypeId) (n : Nat) (ht : P.underlying t = some (.array n e)) (he : P.underlying e = some (.int .u8)) (hi : (P.info? e).map (·.size) = some 1) (hc : P.cellsOf e = 1) (f g : Nat → Nat) (w : World) :
    (Op.equalIn 10000 t (.agg (va n (iv .u8 f))) (.agg (va n (iv .u8 g)))).run P w = .ok (decide (∀ i, i < n → f i = g i)) w := by
  obtain ⟨i, hi'⟩ : ∃ i, P.info? e = some i := by
    cases hq : P.info? e with
    | none => simp [hq] at hi
    | some i => exact ⟨i, rfl⟩
  rw [show (10000 : Nat) = 9998 + 1 + 1 from rfl, run_equalIn_array w (9998 + 1) (va n (iv .u8 f)) (va n (iv .u8 g)) ht hi', hc,
    run_items 9998 he (fun i => ((f i : Nat) : Int)) (fun i => ((g i : Nat) : Int)) (va n (iv .u8 f)) (va n (iv .u8 g)) _ (fun i hi => ⟨va_at (iv .u8 f) (by simpa using hi), va_at (iv .u8 g) (by simpa using hi)⟩)]
  congr 1
  rw [Bool.eq_iff_iff, List.all_eq_true, decide_eq_true_eq]
  constructor
  · intro h i hi
    have := h i (by simpa using hi)
    simp only [beq_iff_eq] at this
    omega
  · intro h i hi
    have := h i (by simpa using hi)
    simp [this]
end
/-- n bytes laid into a block from place r on -/
def putAt (p : Nat → Nat) (r n : Nat) (b : Nat → Nat) : Nat → Nat := fun j => if r ≤ j ∧ j < r + n then b (j - r) else p j
theorem splice_put (N r n : Nat) (p b : Nat → Nat) (h : r + n ≤ N) : (splice (va N (iv .u8 p)).toList r (byL b n)).toArray = va N (iv .u8 (putAt p r n b)) := by
  rw [va_toList]
  refine Eq.trans (by rfl) ((splice_va N r n (iv .u8 p) (fun j => Value.int .u8 ((b j : Nat) : Int)) h).trans ?_)
  refine va_congr fun i hi => ?_
  unfold overF iv putAt
  by_cases h1 : r ≤ i ∧ i < r + n
  · rw [if_pos h1, if_pos h1]
  · rw [if_neg h1, if_neg h1]
/-- two blocks are the same -/
abbrev bkSame (f g : Nat → Nat) : Prop := ∀ i, i < 256 → f i = g i
theorem eq_bk (t : TypeId) (ht : Tryz.prog.underlying t = some (.array 256 5)) (f g : Nat → Nat) (w : World) : (Op.equalIn 10000 t (bkV f) (bkV g)).run Tryz.prog w = .ok (decide (bkSame f g)) w :=
  eq_bytes t 5 256 ht Tryz.underlying5 (by kernel_rfl) (by kernel_rfl) f g w
theorem sizeBk : (Tryz.prog.info? 141).map (·.size) = some 256 := by kernel_rfl
theorem ksizeU8 : (Tryz.prog.info? 5).map (·.size) = some 1 := by kernel_rfl
theorem zero_bk (w : World) : (zeroValue 141).run Tryz.prog w = .ok (.agg (va 256 (iv .u8 fun _ => 0))) w := by
  have h : (Tryz.prog.info? 141).bind (·.zero) = some (.agg (va 256 (iv .u8 fun _ => 0))) := by kernel_rfl
  cases hq : Tryz.prog.info? 141 with
  | none => simp [hq] at h
  | some i =>
    have hi : i.zero = some (.agg (va 256 (iv .u8 fun _ => 0))) := by simpa [hq] using h
    simp [zeroValue, typeInfo, hq, hi]
theorem Blk.new1 (w : World) (o : Obj) (t : TypeId) (cs : Array Value) : Blk ((w.alloc o).alloc (.cells cs t)) (w.heap.size + 1) t cs := by
  have := Blk.new (w.alloc o) t cs
  rwa [show (w.alloc o).heap.size = w.heap.size + 1 by simp] at this
theorem Blk.new2 (w : World) (o o' : Obj) (t : TypeId) (cs : Array Value) : Blk (((w.alloc o).alloc o').alloc (.cells cs t)) (w.heap.size + 2) t cs := by
  have := Blk.new1 (w.alloc o) o' t cs
  rwa [show (w.alloc o).heap.size + 1 = w.heap.size + 2 by simp] at this
theorem below_new1 (w : World) (o : Obj) : Below w.heap.size w (w.alloc o) := (Below.refl _ _).alloc (Nat.le_refl _) _
theorem below_new2 (w : World) (o o' : Obj) : Below w.heap.size w ((w.alloc o).alloc o') := (below_new1 w o).alloc (by simp) _
theorem below_new3 (w : World) (o o' o'' : Obj) : Below w.heap.size w (((w.alloc o).alloc o').alloc o'') := (below_new2 w o o').alloc (by simp; omega) _
theorem wpList_load_rowg {P : Program} {ops : Array Oper} {rest : List Oper} {o : Oper} {a : Act} {w : World} {Q : Exit → Act → World → Prop} (hw : Region.wanted o (yielded ops a.tmps) = true) (ty : TypeId) (x : Operand) (ho : o.op = .load ty x)
    (g : Nat) (hx : a.eval x = .pointer (some ⟨g, 0, none⟩)) (t : TypeId) (cs : Array Value) (fr : Nat × Nat) (d : TypeDesc) (hg : w.heap[g]? = some (.cells cs t fr))
    (hu : P.underlying ty = some d) (hd : (match d with | .struct _ | .array _ _ => true | _ => false) = true) (hi : (P.info? ty).map (·.size) = some cs.size)
    (h : wpList P ops Q rest (a.put o.dst (.agg cs)) w) : wpList P ops Q (o :: rest) a w :=
  wpList_step fun K hK => by
    rw [if_pos hw]
    exact wp_load_row ty x ho g hx t cs fr d hg hu hd hi (hK _ _ h)
theorem results_row2 {P : Program} {fn : Func} {p u : Tmp} {ty : TypeId} (h : fn.results = #[.cell p ty, .tmp u]) (tmps : Array Value) (w : World) (g : Nat) (t : TypeId) (cs : Array Value) (fr : Nat × Nat) (d : TypeDesc)
    (hp : tmps.getD p undef = .pointer (some ⟨g, 0, none⟩)) (hg : w.heap[g]? = some (.cells cs t fr))
    (hu : P.underlying ty = some d) (hd : (match d with | .struct _ | .array _ _ => true | _ => false) = true) (hi : (P.info? ty).map (·.size) = some cs.size) :
    (results fn tmps).run P w = .ok (.tuple #[.agg cs, tmps.getD u undef]) w := by
  have hp' : tmps[p]?.getD undef = .pointer (some ⟨g, 0, none⟩) := by simpa using hp
  simp [results_cell_tmp h, hp', asAddr, run_loadVar_row w g t ty cs fr d hg hu hd hi]
end Go.Proofs.YtppagdmlfgialaaGreatDoor

namespace Go.Proofs.YtppagdmlfgialaaGreatDoor
open Go Go.RowKit
set_option linter.unusedVariables false

theorem kown_mono {w : World} {B B' e size n : Nat} {v : Value} {xs : List Value} (h : w.ownsRow B e size v n xs) (hB : B' ≤ B) : w.ownsRow B' e size v n xs :=
  ⟨h.1, h.2.imp id fun ⟨g, cap, cur, a, b, r⟩ => ⟨g, cap, cur, a, Nat.le_trans hB b, r⟩⟩
theorem kown_form {w : World} {B e size n : Nat} {v : Value} {xs : List Value} (h : w.ownsRow B e size v n xs) (hn : 0 < n) : ∃ g cap, v = .slice (some ⟨g, 0, none⟩) n cap ∧ B ≤ g ∧ g < w.heap.size := by
  rcases h.2 with ⟨_, h0⟩ | ⟨g, cap, cur, rfl, hb, hg, _⟩
  · omega
  · exact ⟨g, cap, rfl, hb, (Array.getElem?_eq_some_iff.1 hg).1⟩
theorem kown_slice {w : World} {B e size n : Nat} {v : Value} {xs : List Value} (h : w.ownsRow B e size v n xs) : ∃ a cap, v = .slice a n cap := by
  rcases h.2 with ⟨rfl, rfl⟩ | ⟨g, cap, cur, rfl, hb, hg, _⟩
  · exact ⟨none, 0, rfl⟩
  · exact ⟨_, cap, rfl⟩
theorem kown_below {w w' : World} {B e size n : Nat} {v : Value} {xs : List Value} (h : w.ownsRow B e size v n xs) (hb : Below w.heap.size w w') : w'.ownsRow B e size v n xs := by
  refine ⟨h.1, ?_⟩
  rcases h.2 with hn | ⟨g, cap, cur, rfl, hg, hgg, rest⟩
  · exact .inl hn
  · exact .inr ⟨g, cap, cur, rfl, hg, (hb.block g (Array.getElem?_eq_some_iff.1 hgg).1).trans hgg, rest⟩
theorem kown_kept {w w' : World} {B e size n : Nat} {v : Value} {xs : List Value} (h : w.ownsRow B e size v n xs) (hk : ∀ k, B ≤ k → v.ownBlock = some k → w'.heap[k]? = w.heap[k]?) : w'.ownsRow B e size v n xs := by
  refine ⟨h.1, ?_⟩
  rcases h.2 with hn | ⟨g, cap, cur, rfl, hg, hgg, rest⟩
  · exact .inl hn
  · exact .inr ⟨g, cap, cur, rfl, hg, (hk g hg rfl).trans hgg, rest⟩
theorem kown_setRow {w : World} {B e size n : Nat} {v : Value} {xs : List Value} (h : w.ownsRow B e size v n xs) {g : Nat} (hne : ∀ k, B ≤ k → v.ownBlock = some k → k ≠ g) (cs : Array Value) : (w.setRow g cs).ownsRow B e size v n xs :=
  kown_kept h fun k hk hv => setRow_other w g k cs (hne k hk hv)
theorem kown_empty {w : World} {B e size g : Nat} (h : Blk w g e #[]) (hB : B ≤ g) : w.ownsRow B e size (.slice (some ⟨g, 0, none⟩) 0 0) 0 [] :=
  ⟨by simp, .inr ⟨g, 0, #[], rfl, hB, h, Nat.le_refl _, by unfold maxLen; omega, by simp, by simp⟩⟩
theorem infoU8k : (Tryz.prog.info? 5).map (fun i => (i.zero, i.size, i.bytes)) = some (some (.int .u8 0), 1, 1) := by kernel_rfl
/-- bytes of an own slice, as a text -/
theorem run_own_text {P : Program} (w : World) (src e dst : TypeId) (hs : P.underlying src = some (.slice e)) (he : P.underlying e = some (.int .u8)) (hd : P.underlying dst = some .string) {B n g cap e' : Nat} {f : Nat → Nat} (h : w.ownsRow B e' 1 (.slice (some ⟨g, 0, none⟩) n cap) n (byL f n)) :
    (convert src dst (.slice (some ⟨g, 0, none⟩) n cap)).run P w = .ok (.string (strN f n)) w :=
  run_convert_bytes_arg w src e hs he g 0 n cap _ (by simp) (fun i hi => by
    rw [Nat.zero_add, h.cellAt i (by omega), byL_at _ _ _ hi]
    simp [List.getD_eq_getElem?_getD, hi]) dst hd
end Go.Proofs.YtppagdmlfgialaaGreatDoor

namespace Go.Proofs.YtppagdmlfgialaaGreatDoor
open Go Go.RowKit
set_option linter.unusedSimpArgs false
set_option linter.unusedVariables false

/-- a slot, as a plain thing: the counter, the root's number, its digest -/
abbrev Sl := Nat × Nat × Vector Nat 32
def slF (s : Sl) : Nat → Value := fun i => if i = 0 then .int .u64 ((s.1 : Nat) : Int) else if i = 1 then .int .u32 ((s.2.1 : Nat) : Int) else .int .u8 ((dF s.2.2 (i - 2) : Nat) : Int)
def slC (s : Sl) : Array Value := va 34 (slF s)
def slV (s : Sl) : Value := .agg (slC s)
def sumD (f : Nat → Nat) : Vector Nat 32 := Vector.ofFn fun i : Fin 32 => f i.1
theorem dF_sumD (f : Nat → Nat) (i : Nat) (hi : i < 32) : dF (sumD f) i = f i := by
  unfold dF sumD
  simp [hi]
def sl0 : Sl := (0, 0, Vector.replicate 32 0)
theorem slC_size (s : Sl) : (slC s).size = 34 := va_size _ _
theorem slC_one (s : Sl) : ∀ u ∈ (slC s).toList, u.oneCell' = true := fun u hu => by
  unfold slC at hu
  rw [va_toList] at hu
  obtain ⟨i, _, rfl⟩ := List.mem_map.1 hu
  unfold slF
  split
  · rfl
  · split <;> rfl
theorem slC_all (s : Sl) : (slC s).all (·.oneCell') = true := va_one fun i _ => by
  unfold slF
  split
  · rfl
  · split <;> rfl
theorem va_extract (n o m : Nat) (f : Nat → Value) (h : o + m ≤ n) : (va n f).extract o (o + m) = va m fun i => f (o + i) := by
  refine va_ext (by rw [Array.size_extract, va_size]; omega) fun i hi => ?_
  rw [Array.getElem?_extract, va_size]
  rw [if_pos (by omega)]
  exact va_at f (by omega)
theorem slot_root (s : Sl) : (fun i => slF s (1 + i)) = fun i => if i = 0 then .int .u32 ((s.2.1 : Nat) : Int) else .int .u8 ((dF s.2.2 (i - 1) : Nat) : Int) := by
  funext i
  unfold slF
  rw [if_neg (by omega)]
  by_cases h : i = 0
  · subst h
    rfl
  · rw [if_neg (by omega), if_neg h, show 1 + i - 2 = i - 1 by omega]
def rfF (a : Nat) (d : Vector Nat 32) : Nat → Value := fun i => if i = 0 then .int .u32 ((a : Nat) : Int) else .int .u8 ((dF d (i - 1) : Nat) : Int)
theorem rf_sum (a : Nat) (d : Vector Nat 32) : (va 32 fun i => rfF a d (1 + i)) = va 32 (iv .u8 (dF d)) := va_congr fun i _ => by
  unfold rfF iv
  rw [if_neg (by omega), show 1 + i - 1 = i by omega]
theorem size_at (t n : Nat) (h : (Tryz.prog.info? t).map (·.size) = some n) (w : World) : (sizeOf t).run Tryz.prog w = .ok n w := by
  cases hq : Tryz.prog.info? t with
  | none => simp [hq] at h
  | some i =>
    have hi : i.size = n := by simpa [hq] using h
    simp [sizeOf, typeInfo, hq, hi]
theorem sizeSlot : (Tryz.prog.info? 43).map (·.size) = some 34 := by kernel_rfl
theorem slSizeRef : (Tryz.prog.info? 41).map (·.size) = some 33 := by kernel_rfl
theorem sizeSm : (Tryz.prog.info? 39).map (·.size) = some 32 := by kernel_rfl
theorem part_root (s : Sl) (w : World) : (part 41 (slC s) 1).run Tryz.prog w = .ok (.agg (va 33 (rfF s.2.1 s.2.2))) w := by
  have e : (slC s).extract 1 (1 + 33) = va 33 (rfF s.2.1 s.2.2) := by
    unfold slC
    rw [va_extract 34 1 33 _ (by decide), slot_root]
    rfl
  simp [part, isAgg, run_underlying Tryz.underlying41, size_at _ _ slSizeRef]
  exact e
theorem part_sum (a : Nat) (d : Vector Nat 32) (w : World) : (part 39 (va 33 (rfF a d)) 1).run Tryz.prog w = .ok (dK d) w := by
  have e : (va 33 (rfF a d)).extract 1 (1 + 32) = va 32 (iv .u8 (dF d)) := by
    rw [va_extract 33 1 32 _ (by decide), rf_sum]
  simp [part, isAgg, run_underlying Tryz.underlying39, size_at _ _ sizeSm]
  unfold dK
  rw [← e]
theorem part_int (t : TypeId) (k : IntKind) (h : Tryz.prog.underlying t = some (.int k)) (cs : Array Value) (o : Nat) (v : Value) (hv : cs[o]? = some v) (w : World) : (part t cs o).run Tryz.prog w = .ok v w := by
  simp [part, isAgg, run_underlying h, hv]
set_option maxRecDepth 100000 in
theorem eq_digAt (d : Nat) (t : TypeId) (ht : Tryz.prog.underlying t = some (.array 32 5)) (a b : Vector Nat 32) (w : World) : (Op.equalIn (d + 1 + 1) t (dK a) (dK b)).run Tryz.prog w = .ok (decide (a = b)) w := by
  obtain ⟨i, hi⟩ : ∃ i, Tryz.prog.info? 5 = some i := Option.isSome_iff_exists.1 (by kernel_rfl)
  have hc : Tryz.prog.cellsOf 5 = 1 := by kernel_rfl
  unfold dK
  rw [run_equalIn_array w (d + 1) (va 32 (iv .u8 (dF a))) (va 32 (iv .u8 (dF b))) ht hi, hc,
    run_items d Tryz.underlying5 (fun i => ((dF a i : Nat) : Int)) (fun i => ((dF b i : Nat) : Int)) (va 32 (iv .u8 (dF a))) (va 32 (iv .u8 (dF b))) _ (fun i hi => ⟨va_at (iv .u8 (dF a)) (by simpa using hi), va_at (iv .u8 (dF b)) (by simpa using hi)⟩)]
  congr 1
  rw [Bool.eq_iff_iff, List.all_eq_true, decide_eq_true_eq]
  constructor
  · intro h
    refine dF_inj fun i hi => ?_
    have := h i (by simpa using hi)
    simp only [beq_iff_eq] at this
    omega
  · rintro rfl i _
    simp
/-- two structs of two fields compared -/
theorem run_eq_two {P : Program} {w : World} {d : Nat} {t t1 t2 o1 o2 : Nat} {cs ds : Array Value} {x1 y1 x2 y2 : Value} {b1 b2 : Bool} (hu : P.underlying t = some (.struct (P.fieldsOf t))) (hp : P.stoodInHeld t = false)
    (hf : (P.fieldsOf t).toList.map (fun f => (f.name == "_", f.type, f.offset)) = [(false, t1, o1), (false, t2, o2)])
    (p1 : (part t1 cs o1).run P w = .ok x1 w) (q1 : (part t1 ds o1).run P w = .ok y1 w) (p2 : (part t2 cs o2).run P w = .ok x2 w) (q2 : (part t2 ds o2).run P w = .ok y2 w)
    (h1 : (Op.equalIn d t1 x1 y1).run P w = .ok b1 w) (h2 : (Op.equalIn d t2 x2 y2).run P w = .ok b2 w) : (Op.equalIn (d + 1) t (.agg cs) (.agg ds)).run P w = .ok (b1 && b2) w := by
  rw [run_equalIn_struct w d t cs ds hu hp]
  obtain ⟨f, l1, e1, hf1, hl1⟩ := List.map_eq_cons_iff.1 hf
  obtain ⟨g, l2, e2, hg1, hl2⟩ := List.map_eq_cons_iff.1 hl1
  have e3 := List.map_eq_nil_iff.1 hl2
  subst e3 e2
  rw [e1]
  simp only [Prod.mk.injEq] at hf1 hg1
  obtain ⟨n1, rfl, rfl⟩ := hf1
  obtain ⟨n2, rfl, rfl⟩ := hg1
  have n1' : f.name ≠ "_" := by simpa using n1
  have n2' : g.name ≠ "_" := by simpa using n2
  unfold Op.eqFields
  rw [if_pos n1']
  unfold Op.eqFields
  rw [if_pos n2']
  simp only [Sem.run_bind, p1, q1, Result.andThen_ok, h1]
  cases b1
  · simp
  · simp only [Bool.not_true, Bool.false_eq_true, if_false, Sem.run_bind, p2, q2, Result.andThen_ok, h2]
    cases b2
    · simp
    · simp [Op.eqFields]
theorem eq_root (d : Nat) (a b : Nat) (x y : Vector Nat 32) (w : World) : (Op.equalIn (d + 1 + 1 + 1) 41 (.agg (va 33 (rfF a x))) (.agg (va 33 (rfF b y)))).run Tryz.prog w = .ok (decide ((a, x) = (b, y))) w := by
  have h1 : (Op.equalIn (d + 1 + 1) 37 (.int .u32 (a : Int)) (.int .u32 (b : Int))).run Tryz.prog w = .ok ((a : Int) == (b : Int)) w := by simp [Op.equalIn, run_underlying Tryz.underlying37]
  have h2 := eq_digAt d 39 Tryz.underlying39 x y w
  have hd : decide ((a, x) = (b, y)) = (((a : Int) == (b : Int)) && decide (x = y)) := by
    rw [Bool.eq_iff_iff]
    simp only [decide_eq_true_eq, Bool.and_eq_true, beq_iff_eq, Prod.mk.injEq]
    constructor
    · rintro ⟨h, k⟩
      exact ⟨by omega, k⟩
    · rintro ⟨h, k⟩
      exact ⟨by omega, k⟩
  rw [hd]
  have p1 : (part 37 (va 33 (rfF a x)) 0).run Tryz.prog w = .ok (.int .u32 ((a : Nat) : Int)) w := part_int _ _ Tryz.underlying37 _ _ _ (va_at (rfF a x) (by decide)) w
  have q1 : (part 37 (va 33 (rfF b y)) 0).run Tryz.prog w = .ok (.int .u32 ((b : Nat) : Int)) w := part_int _ _ Tryz.underlying37 _ _ _ (va_at (rfF b y) (by decide)) w
  have p2 := part_sum a x w
  have q2 := part_sum b y w
  generalize va 33 (rfF a x) = cs at *
  generalize va 33 (rfF b y) = ds at *
  have hu : Tryz.prog.underlying 41 = some (.struct (Tryz.prog.fieldsOf 41)) := by kernel_rfl
  have hp : Tryz.prog.stoodInHeld 41 = false := by kernel_rfl
  have hf : (Tryz.prog.fieldsOf 41).toList.map (fun f => (f.name == "_", f.type, f.offset)) = [(false, 37, 0), (false, 39, 1)] := by kernel_rfl
  exact run_eq_two hu hp hf p1 q1 p2 q2 h1 h2
theorem part_counter (s : Sl) (w : World) : (part 36 (slC s) 0).run Tryz.prog w = .ok (.int .u64 ((s.1 : Nat) : Int)) w := part_int _ _ Tryz.underlying36 _ _ _ (va_at (slF s) (by decide)) w
theorem eq_slotAt (d : Nat) (a b : Sl) (w : World) : (Op.equalIn (d + 1 + 1 + 1 + 1) 43 (slV a) (slV b)).run Tryz.prog w = .ok (decide (a = b)) w := by
  have h1 : (Op.equalIn (d + 1 + 1 + 1) 36 (.int .u64 (a.1 : Int)) (.int .u64 (b.1 : Int))).run Tryz.prog w = .ok ((a.1 : Int) == (b.1 : Int)) w := by simp [Op.equalIn, run_underlying Tryz.underlying36]
  have h2 := eq_root d a.2.1 b.2.1 a.2.2 b.2.2 w
  have hd : decide (a = b) = (((a.1 : Int) == (b.1 : Int)) && decide ((a.2.1, a.2.2) = (b.2.1, b.2.2))) := by
    obtain ⟨a1, a2, a3⟩ := a
    obtain ⟨b1, b2, b3⟩ := b
    rw [Bool.eq_iff_iff]
    simp only [decide_eq_true_eq, Bool.and_eq_true, beq_iff_eq, Prod.mk.injEq]
    constructor
    · rintro ⟨h, k⟩
      exact ⟨by omega, k⟩
    · rintro ⟨h, k⟩
      exact ⟨by omega, k⟩
  rw [hd]
  have p1 := part_counter a w
  have q1 := part_counter b w
  have p2 := part_root a w
  have q2 := part_root b w
  unfold slV
  generalize slC a = cs at *
  generalize slC b = ds at *
  generalize va 33 (rfF a.2.1 a.2.2) = vx at *
  generalize va 33 (rfF b.2.1 b.2.2) = vy at *
  have hu : Tryz.prog.underlying 43 = some (.struct (Tryz.prog.fieldsOf 43)) := by kernel_rfl
  have hp : Tryz.prog.stoodInHeld 43 = false := by kernel_rfl
  have hf : (Tryz.prog.fieldsOf 43).toList.map (fun f => (f.name == "_", f.type, f.offset)) = [(false, 36, 0), (false, 41, 1)] := by kernel_rfl
  exact run_eq_two hu hp hf p1 q1 p2 q2 h1 h2
theorem eq_slot (a b : Sl) (w : World) : (Op.equalIn 10000 43 (slV a) (slV b)).run Tryz.prog w = .ok (decide (a = b)) w := eq_slotAt 9996 a b w
theorem chk_slot (d : Nat) (e : Bool) (a : Sl) (w : World) : (Instr.checkKey e (d + 1 + 1 + 1 + 1) 43 (slV a)).run Tryz.prog w = .ok () w := by
  have h1 : ∀ x : Int, (Instr.checkKey e (d + 1 + 1 + 1) 36 (.int .u64 x)).run Tryz.prog w = .ok () w := fun x => by simp [Instr.checkKey, run_underlying Tryz.underlying36]
  have h3 : ∀ x : Int, (Instr.checkKey e (d + 1 + 1) 37 (.int .u32 x)).run Tryz.prog w = .ok () w := fun x => by simp [Instr.checkKey, run_underlying Tryz.underlying37]
  have h4 : (Instr.checkKey e (d + 1 + 1) 39 (dK a.2.2)).run Tryz.prog w = .ok () w := chk_dig d e _ w
  have p1 := part_counter a w
  have p2 := part_root a w
  have p3 : (part 37 (va 33 (rfF a.2.1 a.2.2)) 0).run Tryz.prog w = .ok (.int .u32 ((a.2.1 : Nat) : Int)) w := part_int _ _ Tryz.underlying37 _ _ _ (va_at (rfF a.2.1 a.2.2) (by decide)) w
  have p4 := part_sum a.2.1 a.2.2 w
  generalize va 33 (rfF a.2.1 a.2.2) = vx at *
  generalize dK a.2.2 = vs at *
  have h2 : (Instr.checkKey e (d + 1 + 1 + 1) 41 (.agg vx)).run Tryz.prog w = .ok () w := by
    rw [Instr.checkKey]
    simp only [Sem.run_bind, run_underlying Tryz.underlying41, Result.andThen_ok]
    simp [p3, p4, h3, h4]
  unfold slV
  generalize slC a = cs at *
  rw [Instr.checkKey]
  simp only [Sem.run_bind, run_underlying Tryz.underlying43, Result.andThen_ok]
  simp [p1, p2, h1, h2]
theorem slot_key : KeyOf Tryz.prog 43 slV where
  desc := ⟨_, Tryz.underlying43, (fun k h => by cases h), (fun h => by cases h), (fun h => by cases h)⟩
  eq a b w := eq_slot a b w
  chk e a w := chk_slot 9996 e a w
theorem infoSlot : (Tryz.prog.info? 43).map (fun i => (i.zero, i.size, i.bytes)) = some (some (slV sl0), 34, 48) := by kernel_rfl
theorem zero_slot (w : World) : (zeroValue 43).run Tryz.prog w = .ok (.agg (slC sl0)) w := by
  have h : (Tryz.prog.info? 43).bind (·.zero) = some (slV sl0) := by kernel_rfl
  cases hq : Tryz.prog.info? 43 with
  | none => simp [hq] at h
  | some i =>
    have hi : i.zero = some (slV sl0) := by simpa [hq] using h
    simp [zeroValue, typeInfo, hq, hi]
    rfl
theorem built_refD (a : Nat) (d : Vector Nat 32) : Tryz.prog.built 41 [(0, .int .u32 (a : Int)), (1, .agg (va 32 (iv .u8 (dF d))))] = some (va 33 (rfF a d)) := by kernel_rfl
/-- all cells of a list of slots -/
def slL (L : List Sl) : List Value := L.flatMap fun s => (slC s).toList
theorem slL_at : ∀ (L : List Sl) (i j : Nat) (s : Sl), L[i]? = some s → j < 34 → (slL L)[i * 34 + j]? = some (slF s j)
  | [], i, j, s, h, hj => by simp at h
  | x :: L, 0, j, s, h, hj => by
    have e : slL (x :: L) = (slC x).toList ++ slL L := rfl
    simp at h
    subst h
    rw [e, List.getElem?_append_left (by rw [Array.length_toList, slC_size]; omega)]
    rw [Nat.zero_mul, Nat.zero_add]
    have := va_at (slF x) hj
    unfold slC
    simpa using this
  | x :: L, i + 1, j, s, h, hj => by
    have e : slL (x :: L) = (slC x).toList ++ slL L := rfl
    have := slL_at L i j s (by simpa using h) hj
    rw [e, List.getElem?_append_right (by rw [Array.length_toList, slC_size]; omega), Array.length_toList, slC_size, ← this]
    congr 1
    omega
theorem slL_snoc (L : List Sl) (s : Sl) : slL (L ++ [s]) = slL L ++ (slC s).toList := by simp [slL]
end Go.Proofs.YtppagdmlfgialaaGreatDoor

namespace Go.Proofs.YtppagdmlfgialaaGreatDoor
open Go.RowKit
set_option linter.unusedSimpArgs false
set_option linter.unusedVariables false

def Fit (a m : Int) : Prop := 0 ≤ a ∧ 0 ≤ m ∧ a ≤ 256 - m
instance (a m : Int) : Decidable (Fit a m) := by unfold Fit; infer_instance

end Go.Proofs.YtppagdmlfgialaaGreatDoor

namespace Go.Proofs.YtppagdmlfgialaaGreatDoor
open Go Go.RowKit
set_option linter.unusedVariables false

theorem kblk_range {w : World} {g t n : Nat} {f : Nat → Value} (h : Blk w g t (va n f)) : w.rangeAt g 0 ((List.range n).map f) := fun j v hv => by
  refine h.range 0 n (by omega) j v ?_
  rw [← hv]
  simp
theorem kyields_load {P : Program} {ops : Array Oper} {S : World → Prop} {op : Oper} {a : Act} (hw : Region.wanted op (yielded ops a.tmps) = true) (ty : TypeId) (x : Operand) (ho : op.op = .load ty x)
    (b n : Nat) (f : Nat → Value) (hx : a.eval x = .pointer (some ⟨b, 0, none⟩)) (d : TypeDesc) (t : Nat) (hS : ∀ w, S w → Blk w b t (va n f))
    (hu : P.underlying ty = some d) (hd : d.isRow = true) (hi : (P.info? ty).map (·.size) = some n) : YieldsIf P ops S op (.agg (va n f)) a :=
  yieldsIf_load_mid hw ty x ho b 0 hx _ d (fun w h => kblk_range (hS w h)) hu hd (hi.trans (by simp))
end Go.Proofs.YtppagdmlfgialaaGreatDoor

namespace Go.Proofs.YtppagdmlfgialaaGreatDoor
open Go Go.RowKit
set_option linter.unusedVariables false

/-- the slice at a of n blocks, told by L -/
def IsBlks (w : World) (a : Option Addr) (n : Nat) (L : Nat → Nat → Nat) : Prop :=
  ∀ i, i < n → ∃ b o, a = some ⟨b, o, none⟩ ∧ b < w.heap.size ∧ w.rangeAt b (o + i * 256) ((List.range 256).map (iv .u8 (L i)))
theorem range_below {w w' : World} {B b o : Nat} {cs : List Value} (h : w.rangeAt b o cs) (hb : Below B w w') (hB : b < B) : w'.rangeAt b o cs := fun j v hv => by
  rw [← h j v hv]
  simp [World.cell?, hb.block b hB]
theorem IsBlks.below {w w' : World} {a : Option Addr} {n : Nat} {L : Nat → Nat → Nat} (h : IsBlks w a n L) (hb : Below w.heap.size w w') : IsBlks w' a n L := fun i hi => by
  obtain ⟨b, o, e, h1, h2⟩ := h i hi
  exact ⟨b, o, e, Nat.lt_of_lt_of_le h1 hb.size, range_below h2 hb h1⟩
end Go.Proofs.YtppagdmlfgialaaGreatDoor

namespace Go.Proofs.YtppagdmlfgialaaGreatDoor
open Go.RowKit
set_option linter.unusedSimpArgs false
set_option linter.unusedVariables false

theorem fold_set : ∀ (l : List Value) (k : Nat) (A : Array Value), k + l.length ≤ A.size →
    ((l.zipIdx k).foldl (fun cs (x : Value × Nat) => cs.setIfInBounds (0 + x.2) x.1) A).size = A.size ∧
    ∀ i, ((l.zipIdx k).foldl (fun cs (x : Value × Nat) => cs.setIfInBounds (0 + x.2) x.1) A)[i]? = if k ≤ i ∧ i < k + l.length then l[i - k]? else A[i]?
  | [], k, A, h => ⟨rfl, fun i => by simp; omega⟩
  | v :: l, k, A, h => by
    rw [List.zipIdx_cons, List.foldl_cons]
    obtain ⟨h1, h2⟩ := fold_set l (k + 1) (A.setIfInBounds (0 + k) v) (by simp at h ⊢; omega)
    refine ⟨by rw [h1]; simp, fun i => ?_⟩
    rw [h2 i]
    simp at h
    by_cases hi : i = k
    · subst hi
      rw [if_neg (by omega), if_pos (by simp), Nat.zero_add, Array.getElem?_setIfInBounds, if_pos rfl, if_pos (by omega), Nat.sub_self]
      rfl
    · by_cases hj : k + 1 ≤ i ∧ i < k + 1 + l.length
      · rw [if_pos hj, if_pos (by simp; omega)]
        obtain ⟨d, hd⟩ : ∃ d, i - k = d + 1 := ⟨i - k - 1, by omega⟩
        rw [hd, List.getElem?_cons_succ, show i - (k + 1) = d by omega]
      · rw [if_neg hj, if_neg (by simp; omega), Array.getElem?_setIfInBounds, if_neg (by omega)]
theorem fill_one (n : Nat) (cells cs : Array Value) (h1 : cells.size = n) (h2 : cs.size = n) : Instr.fill (fun i => some (i * n, n)) cells [(0, .agg cs)] = some cs := by
  have hc : (Value.agg cs).cells = cs := rfl
  unfold Instr.fill
  simp only [hc, h2, h1, ne_eq, not_true_eq_false, decide_false, Bool.false_or, Nat.zero_mul, Nat.zero_add, Nat.lt_irrefl, decide_false, gt_iff_lt, if_false, Bool.false_eq_true]
  unfold Instr.fill
  congr 1
  obtain ⟨e1, e2⟩ := fold_set cs.toList 0 cells (by simp [h1, h2])
  apply Array.ext_getElem?
  intro i
  have := e2 i
  simp only [Nat.zero_add] at this e1
  have e3 : cs.zipIdx.foldl (fun cs (x : Value × Nat) => match x with | (c, j) => cs.setIfInBounds j c) cells = (cs.toList.zipIdx 0).foldl (fun cs (x : Value × Nat) => cs.setIfInBounds x.2 x.1) cells := by
    rw [← Array.foldl_toList]
    simp
  rw [e3, this]
  by_cases hi : i < cs.size
  · rw [if_pos (by simpa using hi)]
    simp
  · rw [if_neg (by simpa using hi), Array.getElem?_eq_none (by omega), Array.getElem?_eq_none (by omega)]
/-- a slice of one array -/
theorem wpList_build1 {P : Program} {ops : Array Oper} {rest : List Oper} {o : Oper} {a : Act} {w : World} {Q : Exit → Act → World → Prop} (hg : o.guard = none) (t e : TypeId) (x : Operand) (ho : o.op = .buildSlice t 1 #[(0, x)])
    (cs : Array Value) (hx : a.eval x = .agg cs) (ie : TypeInfo) (z : Value) (n : Nat)
    (hu : P.underlying t = some (.slice e)) (hie : P.info? e = some ie) (hz : ie.zero = some z) (hn : ie.size = n) (hcs : cs.size = n) (h0 : 0 < n) (h24 : n ≤ 16777216)
    (h : wpList P ops Q rest (a.put o.dst (.slice (some ⟨w.heap.size, 0, none⟩) 1 1)) (w.alloc (.cells cs e))) : wpList P ops Q (o :: rest) a w := by
  refine wpList_buildSlice hg t e 1 _ ho cs ie z hu hie hz (by rw [hn]; omega) (by rw [hn]; omega) ?_ h
  rw [hn]
  have e1 : (Array.map (fun (x : Nat × Operand) => match x with | (i, x) => (i, a.eval x)) #[(0, x)]).toList = [(0, Value.agg cs)] := by
    simp [hx]
  rw [e1]
  exact fill_one n _ _ (by simp) hcs
theorem infoBk : (Tryz.prog.info? 141).map (fun i => (i.zero, i.size, i.bytes)) = some (some (.agg (va 256 (iv .u8 fun _ => 0))), 256, 256) := by kernel_rfl

/-- a block of a slice, loaded -/
theorem wpList_load_blk {P : Program} {ops : Array Oper} {rest : List Oper} {op : Oper} {a : Act} {w : World} {Q : Exit → Act → World → Prop} (hgd : op.guard = none) (ty : TypeId) (x : Operand) (ho : op.op = .load ty x)
    (b o n : Nat) (f : Nat → Value) (hx : a.eval x = .pointer (some ⟨b, o, none⟩)) (d : TypeDesc) (hc : w.rangeAt b o ((List.range n).map f))
    (hu : P.underlying ty = some d) (hd : d.isRow = true) (hi : (P.info? ty).map (·.size) = some n)
    (h : wpList P ops Q rest (a.put op.dst (.agg (va n f))) w) : wpList P ops Q (op :: rest) a w :=
  wpList_load_mid hgd ty x ho b o hx _ d hc hu hd (hi.trans (by simp)) h
theorem cells_new (w : World) (cs : Array Value) (t : TypeId) : ∀ j u, cs.toList[j]? = some u → (w.alloc (.cells cs t)).cell? ((⟨w.heap.size, 0, none⟩ : Addr).add j) = some u := fun j u hu => by
  have hb : Blk (w.alloc (.cells cs t)) w.heap.size t cs := Blk.new w t cs
  rw [Addr.add_mid, Nat.zero_add, hb.cell]
  simpa using hu
theorem kva_mem_one (n : Nat) (f : Nat → Nat) : ∀ v ∈ (va n (iv .u8 f)).toList, v.oneCell' = true := fun v hv => by
  rw [va_toList] at hv
  obtain ⟨i, _, rfl⟩ := List.mem_map.1 hv
  rfl
end Go.Proofs.YtppagdmlfgialaaGreatDoor

namespace Go.Proofs.YtppagdmlfgialaaGreatDoor
open Go Go.RowKit
set_option linter.unusedSimpArgs false
set_option linter.unusedVariables false

theorem tbyte_get (s : ByteArray) (i : Nat) (h : i < s.size) : tbyte s i = s[i].toNat := by
  have h' : i < s.data.size := h
  simp [tbyte, List.getD]
  rw [Array.getElem?_eq_getElem h']; rfl
def at4 (s : ByteArray) (a : Nat) : Nat := le4 (tbyte s a) (tbyte s (a + 1)) (tbyte s (a + 2)) (tbyte s (a + 3))
set_option maxHeartbeats 400000 in
theorem there_yes (s : ByteArray) (a k : Nat) (hs : s.size ≤ maxLen) (hk : k ≤ 8) (h : a + k ≤ s.size) (w : World) :
    Calls Tryz.prog 338 #[.string s, .int .i64 (a : Int), .int .i64 (k : Int)] w fun e w' => e = .returned (.bool true) ∧ w' = w := by
  unfold maxLen at hs
  have e1 : decide ((a : Int) ≤ (s.size : Int) - (k : Int)) = true := by simp; omega
  go_enter Tryz.func338, Tryz.ntmps338
  go_wp2
  go_ret
  exact ⟨by simp, rfl⟩
set_option maxHeartbeats 1000000 in
theorem take32_yes (s : ByteArray) (a : Nat) (hs : s.size ≤ maxLen) (h : a + 4 ≤ s.size) (w : World) :
    Calls Tryz.prog 330 #[.string s, .int .i64 (a : Int)] w fun e w' => e = .returned (.tuple #[.int .u32 (at4 s a : Int), .bool true]) ∧ Below w.heap.size w w' := by
  have hs' := hs
  unfold maxLen at hs
  have HE : Hid (at4 s a = le4 s[a].toNat s[a + 1].toNat s[a + 2].toNat s[a + 3].toNat) := by
    show at4 s a = le4 s[a].toNat s[a + 1].toNat s[a + 2].toNat s[a + 3].toNat
    unfold at4; rw [tbyte_get s a (by omega), tbyte_get s (a + 1) (by omega), tbyte_get s (a + 2) (by omega), tbyte_get s (a + 3) (by omega)]
  go_enter Tryz.func330, Tryz.ntmps330
  go_wp2_with fail
  refine (there_yes s a 4 hs' (by decide) h _).mono ?_
  rintro e w' ⟨rfl, rfl⟩
  go_wp2
  refine wp_loop_rounds 5 ?_
  rw [rounds_succ]
  go_wp2
  rw [rounds_succ]
  go_wp2
  rw [rounds_succ]
  go_wp2
  rw [rounds_succ]
  go_wp2
  rw [rounds_succ]
  go_wp2_with fail
  refine (of32_any _ _ _ _ (UInt8.toNat_lt _) (UInt8.toNat_lt _) (UInt8.toNat_lt _) (UInt8.toNat_lt _) _).mono ?_
  rintro e w1 ⟨rfl, hb⟩
  go_wp2
  go_ret2
  rw [HE.out]
  refine ⟨rfl, ?_⟩
  exact ((Below.refl _ _).alloc (Nat.le_refl _) _).trans (hb.mono (by simp))
end Go.Proofs.YtppagdmlfgialaaGreatDoor

namespace Go.Proofs.YtppagdmlfgialaaGreatDoor
open Go Go.RowKit
set_option linter.unusedSimpArgs false
set_option linter.unusedVariables false

/-- a reference, as a plain thing -/
abbrev Rf := Nat × Vector Nat 32
def rfC (r : Rf) : Array Value := va 33 (rfF r.1 r.2)
def rf0 : Rf := (0, Vector.replicate 32 0)
theorem rfC_size (r : Rf) : (rfC r).size = 33 := va_size _ _
theorem rfF_one (a : Nat) (d : Vector Nat 32) (i : Nat) : (rfF a d i).oneCell' = true := by
  unfold rfF
  split <;> rfl
theorem rfC_all (r : Rf) : (rfC r).all (·.oneCell') = true := va_one fun i _ => rfF_one _ _ _
/-- is a reference right? -/
def rOk (r : Rf) : Bool := decide (r = rf0) || decide (r.1 ≠ 0)
theorem ndSize32 : (Tryz.prog.info? 38).map (·.size) = some 32 := by kernel_rfl
theorem zero_of {t : TypeId} {v : Value} (h : (Tryz.prog.info? t).bind (·.zero) = some v) (w : World) : (zeroValue t).run Tryz.prog w = .ok v w := by
  cases hq : Tryz.prog.info? t with
  | none => simp [hq] at h
  | some i =>
    have hi : i.zero = some v := by simpa [hq] using h
    simp [zeroValue, typeInfo, hq, hi]
theorem zero_ref (w : World) : (zeroValue 41).run Tryz.prog w = .ok (.agg (rfC rf0)) w := zero_of (by kernel_rfl) w
theorem zero_rref (w : World) : (zeroValue 67).run Tryz.prog w = .ok (.agg (rfC rf0)) w := zero_of (by kernel_rfl) w
theorem zero_256 (w : World) : (zeroValue 121).run Tryz.prog w = .ok (.agg (va 256 (iv .u8 fun _ => 0))) w := zero_of (by kernel_rfl) w
theorem built_rref0 : Tryz.prog.built 67 [] = some (rfC rf0) := by kernel_rfl
theorem built_rref (a : Nat) (d : Vector Nat 32) : Tryz.prog.built 67 [(0, .int .u32 (a : Int)), (1, .agg (va 32 (iv .u8 (dF d))))] = some (rfC (a, d)) := by kernel_rfl
theorem part_agg (t n : Nat) (u : TypeDesc) (hu : Tryz.prog.underlying t = some u) (hd : u.isRow = true) (hs : (Tryz.prog.info? t).map (·.size) = some n) (cs ds : Array Value) (o : Nat) (he : cs.extract o (o + n) = ds) (w : World) : (part t cs o).run Tryz.prog w = .ok (.agg ds) w := by
  cases u <;> simp [TypeDesc.isRow] at hd <;> simp [part, isAgg, run_underlying hu, size_at _ _ hs, he]
/-- two references compared -/
theorem eq_ref (d : Nat) (a b : Rf) (w : World) : (Op.equalIn (d + 1 + 1 + 1) 41 (.agg (rfC a)) (.agg (rfC b))).run Tryz.prog w = .ok (decide (a = b)) w := eq_root d a.1 b.1 a.2 b.2 w
theorem part_sum32 (a : Nat) (d : Vector Nat 32) (w : World) : (part 38 (va 33 (rfF a d)) 1).run Tryz.prog w = .ok (dK d) w :=
  part_agg _ 32 _ Tryz.underlying38 rfl ndSize32 _ _ 1 (by rw [va_extract 33 1 32 _ (by decide), rf_sum]) w
/-- texts one behind the other -/
theorem tbyte_append (s t : ByteArray) (j : Nat) : tbyte (s ++ t) j = if j < s.size then tbyte s j else tbyte t (j - s.size) := by
  have hs : s.data.toList.length = s.size := Array.length_toList
  have e : (s ++ t).data.toList = s.data.toList ++ t.data.toList := by
    rw [ByteArray.data_append, Array.toList_append]
  unfold tbyte
  rw [e, List.getD_eq_getElem?_getD]
  by_cases h : j < s.size
  · rw [if_pos h, List.getElem?_append_left (by omega), List.getD_eq_getElem?_getD]
  · rw [if_neg h, List.getElem?_append_right (by omega), List.getD_eq_getElem?_getD, hs]
theorem strN_append (f : Nat → Nat) (a b : Nat) (hf : ∀ j, j < a + b → f j < 256) : strN f a ++ strN (fun j => f (a + j)) b = strN f (a + b) := by
  refine text_ext (by rw [ByteArray.size_append, strN_size, strN_size, strN_size]) fun j hj => ?_
  rw [ByteArray.size_append, strN_size, strN_size] at hj
  rw [tbyte_append, strN_size, strN_at f (a + b) j hj (hf j hj)]
  by_cases h : j < a
  · rw [if_pos h, strN_at f a j h (hf j (by omega))]
  · rw [if_neg h]
    have e : a + (j - a) = j := by omega
    rw [strN_at _ b (j - a) (by omega) (by rw [e]; exact hf j hj), e]
/-- a reference's bytes -/
def encR (r : Rf) : Nat → Nat := fun j => if j < 4 then dig r.1 j else dF r.2 (j - 4)
/-- a digest of bytes -/
def okD (d : Vector Nat 32) : Prop := ∀ i, i < 32 → dF d i < 256
theorem encR_lt (r : Rf) (hr : okD r.2) (j : Nat) (hj : j < 36) : encR r j < 256 := by
  unfold encR
  split
  · exact dig_lt _ _
  · exact hr _ (by omega)
theorem okD_zero : okD (Vector.replicate 32 0) := fun i hi => by
  unfold dF
  simp [hi]
theorem okD_sum (f : Nat → Nat) (h : ∀ i, i < 32 → f i < 256) : okD (sumD f) := fun i hi => by
  rw [dF_sumD f i hi]
  exact h i hi
end Go.Proofs.YtppagdmlfgialaaGreatDoor
