/- The leaves of a text: the program's contract of Cut. -/
import Derived.Test.YtaoglljkghkbpaaBlkTake
import Derived.Test.YtaoglljkghkbpaaSegsIf
import Derived.Test.YtaoglljkghkbpaaOpenArray
import Derived.Deep.MidRow
import Derived.OpenShut
import Derived.Test.YtaoglljkghkbpaaBlkOwn
import Derived.Great.BuildSlice
import Derived.OwnWalk
import Derived.Maps.AppendAt
import Derived.Handy

namespace Go.Proofs.Ytaoglljkghkbpaa
open Go Go.RowKit
set_option linter.unusedVariables false

theorem kblk_range {w : World} {g t n : Nat} {f : Nat → Value} (h : Blk w g t (va n f)) : w.rangeAt g 0 ((List.range n).map f) := fun j v hv => by
  refine h.range 0 n (by omega) j v ?_
  rw [← hv]
  simp
theorem kyields_load {P : Program} {ops : Array Oper} {S : World → Prop} {op : Oper} {a : Act} (hw : Region.wanted op (yielded ops a.tmps) = true) (ty : TypeId) (x : Operand) (ho : op.op = .load ty x)
    (b n : Nat) (f : Nat → Value) (hx : a.eval x = .pointer (some ⟨b, 0, none⟩)) (d : TypeDesc) (t : Nat) (hS : ∀ w, S w → Blk w b t (va n f))
    (hu : P.underlying ty = some d) (hd : d.isRow = true) (hi : (P.info? ty).map (·.size) = some n) : YieldsIf P ops S op (.agg (va n f)) a :=
  yieldsIf_load_mid hw ty x ho b 0 hx _ d (fun w h => kblk_range (hS w h)) hu hd (hi.trans (by simp))
/-- the block that a list of numbers is -/
def listF (l : List Int) : Nat → Nat := fun i => (l.getD i 0).toNat
theorem list_va (n : Nat) (l : List Int) (hl : l.length = n) (hw : ∀ x ∈ l, (Lit.int .u8 x).wf = true) : (l.map (Value.int .u8)).toArray = va n (iv .u8 (listF l)) := by
  refine va_ext (by simp [hl]) fun i hi => ?_
  have hm : l[i]'(by omega) ∈ l := List.getElem_mem _
  have h1 := hw _ hm
  have h2 : 0 ≤ l[i]'(by omega) := by
    have h3 := bounds_u8 h1
    omega
  unfold iv listF
  simp [List.getD_eq_getElem?_getD, hl, hi]
  omega
theorem list_bk (l : List Int) (hl : l.length = 256) (hw : ∀ x ∈ l, (Lit.int .u8 x).wf = true) : Value.agg (l.map (Value.int .u8)).toArray = bkV (listF l) := by
  unfold bkV
  rw [list_va 256 l hl hw]
theorem list_lt (l : List Int) (hw : ∀ x ∈ l, (Lit.int .u8 x).wf = true) (i : Nat) : listF l i < 256 := by
  unfold listF
  rw [List.getD_eq_getElem?_getD]
  by_cases hi : i < l.length
  · rw [List.getElem?_eq_getElem hi]
    have h1 := hw _ (List.getElem_mem hi)
    have h3 := bounds_u8 h1
    simp
    omega
  · rw [List.getElem?_eq_none (by omega)]
    simp
end Go.Proofs.Ytaoglljkghkbpaa

namespace Go.Proofs.Ytaoglljkghkbpaa
open Go Go.RowKit
set_option linter.unusedVariables false

/-- the slice at a of n blocks, told by L -/
def IsBlks (w : World) (a : Option Addr) (n : Nat) (L : Nat → Nat → Nat) : Prop :=
  ∀ i, i < n → ∃ b o, a = some ⟨b, o, none⟩ ∧ b < w.heap.size ∧ w.rangeAt b (o + i * 256) ((List.range 256).map (iv .u8 (L i)))
theorem range_below {w w' : World} {B b o : Nat} {cs : List Value} (h : w.rangeAt b o cs) (hb : Below B w w') (hB : b < B) : w'.rangeAt b o cs := fun j v hv => by
  rw [← h j v hv]
  simp [World.cell?, hb.block b hB]
theorem IsBlks.below {w w' : World} {a : Option Addr} {n : Nat} {L : Nat → Nat → Nat} (h : IsBlks w a n L) (hb : Below w.heap.size w w') : IsBlks w' a n L := fun i hi => by
  obtain ⟨b, o, e, h1, h2⟩ := h i hi
  exact ⟨b, o, e, Nat.lt_of_lt_of_le h1 hb.size, range_below h2 hb h1⟩
end Go.Proofs.Ytaoglljkghkbpaa

namespace Go.Proofs.Ytaoglljkghkbpaa
open Go.RowKit
set_option linter.unusedSimpArgs false
set_option linter.unusedVariables false

theorem fold_set : ∀ (l : List Value) (k : Nat) (A : Array Value), k + l.length ≤ A.size →
    ((l.zipIdx k).foldl (fun cs (x : Value × Nat) => cs.setIfInBounds (0 + x.2) x.1) A).size = A.size ∧
    ∀ i, ((l.zipIdx k).foldl (fun cs (x : Value × Nat) => cs.setIfInBounds (0 + x.2) x.1) A)[i]? = if k ≤ i ∧ i < k + l.length then l[i - k]? else A[i]?
  | [], k, A, h => ⟨rfl, fun i => by simp; omega⟩
  | v :: l, k, A, h => by
    rw [List.zipIdx_cons, List.foldl_cons]
    obtain ⟨h1, h2⟩ := fold_set l (k + 1) (A.setIfInBounds (0 + k) v) (by simp at h ⊢; omega)
    refine ⟨by rw [h1]; simp, fun i => ?_⟩
    rw [h2 i]
    simp at h
    by_cases hi : i = k
    · subst hi
      rw [if_neg (by omega), if_pos (by simp), Nat.zero_add, Array.getElem?_setIfInBounds, if_pos rfl, if_pos (by omega), Nat.sub_self]
      rfl
    · by_cases hj : k + 1 ≤ i ∧ i < k + 1 + l.length
      · rw [if_pos hj, if_pos (by simp; omega)]
        obtain ⟨d, hd⟩ : ∃ d, i - k = d + 1 := ⟨i - k - 1, by omega⟩
        rw [hd, List.getElem?_cons_succ, show i - (k + 1) = d by omega]
      · rw [if_neg hj, if_neg (by simp; omega), Array.getElem?_setIfInBounds, if_neg (by omega)]
theorem fill_one (n : Nat) (cells cs : Array Value) (h1 : cells.size = n) (h2 : cs.size = n) : Instr.fill (fun i => some (i * n, n)) cells [(0, .agg cs)] = some cs := by
  have hc : (Value.agg cs).cells = cs := rfl
  unfold Instr.fill
  simp only [hc, h2, h1, ne_eq, not_true_eq_false, decide_false, Bool.false_or, Nat.zero_mul, Nat.zero_add, Nat.lt_irrefl, decide_false, gt_iff_lt, if_false, Bool.false_eq_true]
  unfold Instr.fill
  congr 1
  obtain ⟨e1, e2⟩ := fold_set cs.toList 0 cells (by simp [h1, h2])
  apply Array.ext_getElem?
  intro i
  have := e2 i
  simp only [Nat.zero_add] at this e1
  have e3 : cs.zipIdx.foldl (fun cs (x : Value × Nat) => match x with | (c, j) => cs.setIfInBounds j c) cells = (cs.toList.zipIdx 0).foldl (fun cs (x : Value × Nat) => cs.setIfInBounds x.2 x.1) cells := by
    rw [← Array.foldl_toList]
    simp
  rw [e3, this]
  by_cases hi : i < cs.size
  · rw [if_pos (by simpa using hi)]
    simp
  · rw [if_neg (by simpa using hi), Array.getElem?_eq_none (by omega), Array.getElem?_eq_none (by omega)]
/-- a slice of one array -/
theorem wpList_build1 {P : Program} {ops : Array Oper} {rest : List Oper} {o : Oper} {a : Act} {w : World} {Q : Exit → Act → World → Prop} (hg : o.guard = none) (t e : TypeId) (x : Operand) (ho : o.op = .buildSlice t 1 #[(0, x)])
    (cs : Array Value) (hx : a.eval x = .agg cs) (ie : TypeInfo) (z : Value) (n : Nat)
    (hu : P.underlying t = some (.slice e)) (hie : P.info? e = some ie) (hz : ie.zero = some z) (hn : ie.size = n) (hcs : cs.size = n) (h0 : 0 < n) (h24 : n ≤ 16777216)
    (h : wpList P ops Q rest (a.put o.dst (.slice (some ⟨w.heap.size, 0, none⟩) 1 1)) (w.alloc (.cells cs e))) : wpList P ops Q (o :: rest) a w := by
  refine wpList_buildSlice hg t e 1 _ ho cs ie z hu hie hz (by rw [hn]; omega) (by rw [hn]; omega) ?_ h
  rw [hn]
  have e1 : (Array.map (fun (x : Nat × Operand) => match x with | (i, x) => (i, a.eval x)) #[(0, x)]).toList = [(0, Value.agg cs)] := by
    simp [hx]
  rw [e1]
  exact fill_one n _ _ (by simp) hcs
theorem infoBk : (Try.prog.info? 23).map (fun i => (i.zero, i.size, i.bytes)) = some (some (.agg (va 256 (iv .u8 fun _ => 0))), 256, 256) := by kernel_rfl

/-- a block of a slice, loaded -/
theorem wpList_load_blk {P : Program} {ops : Array Oper} {rest : List Oper} {op : Oper} {a : Act} {w : World} {Q : Exit → Act → World → Prop} (hgd : op.guard = none) (ty : TypeId) (x : Operand) (ho : op.op = .load ty x)
    (b o n : Nat) (f : Nat → Value) (hx : a.eval x = .pointer (some ⟨b, o, none⟩)) (d : TypeDesc) (hc : w.rangeAt b o ((List.range n).map f))
    (hu : P.underlying ty = some d) (hd : d.isRow = true) (hi : (P.info? ty).map (·.size) = some n)
    (h : wpList P ops Q rest (a.put op.dst (.agg (va n f))) w) : wpList P ops Q (op :: rest) a w :=
  wpList_load_mid hgd ty x ho b o hx _ d hc hu hd (hi.trans (by simp)) h
/-- into how many leaves a text is cut -/
def leavesN (n : Nat) : Nat := (n + 255) / 256
theorem leaf_cells (s sv : ByteArray) (k : Nat) (hsv : ∀ j, tbyte sv j = tbyte s (256 * k + j)) : byL (tbyte s) ((k + 1) * 256) = byL (tbyte s) (k * 256) ++ (va 256 (iv .u8 (tbyte sv))).toList := by
  rw [show (k + 1) * 256 = k * 256 + 256 by omega, byL_add, va_toList]
  congr 1
  unfold byL
  refine List.map_congr_left fun j _ => ?_
  unfold iv
  rw [hsv j, show 256 * k + j = k * 256 + j by omega]
theorem cells_new (w : World) (cs : Array Value) (t : TypeId) : ∀ j u, cs.toList[j]? = some u → (w.alloc (.cells cs t)).cell? ((⟨w.heap.size, 0, none⟩ : Addr).add j) = some u := fun j u hu => by
  have hb : Blk (w.alloc (.cells cs t)) w.heap.size t cs := Blk.new w t cs
  rw [Addr.add_mid, Nat.zero_add, hb.cell]
  simpa using hu
theorem kva_mem_one (n : Nat) (f : Nat → Nat) : ∀ v ∈ (va n (iv .u8 f)).toList, v.oneCell' = true := fun v hv => by
  rw [va_toList] at hv
  obtain ⟨i, _, rfl⟩ := List.mem_map.1 hv
  rfl
theorem drop_byte (s sv : ByteArray) (k n : Nat) (hsv : ∀ j, tbyte sv j = tbyte s (256 * k + j)) (hn : n ≤ sv.size) (hn2 : n = 256 ∨ n = sv.size) (hn3 : n ≤ 256) (hs : 256 * k + sv.size = s.size) : ∀ j, tbyte (sv.extract n sv.size) j = tbyte s (256 * (k + 1) + j) := fun j => by
  have hsz := extract_size sv n sv.size (Nat.le_refl _)
  by_cases hj : n + j < sv.size
  · rw [tbyte_extract sv n sv.size j (Nat.le_refl _) hj, hsv]
    congr 1
    omega
  · rw [tbyte_out _ _ (by omega)]
    rw [tbyte_out s _ (by omega)]

set_option maxRecDepth 100000 in
set_option maxHeartbeats 8000000 in
theorem cut_any (s : ByteArray) (hs : s.size ≤ 140737488351232) (w : World) :
    Calls Try.prog 25 #[.string s] w fun e w' => ∃ v, e = .returned v ∧ w'.ownsRow w.heap.size 23 256 v (leavesN s.size) (byL (tbyte s) (leavesN s.size * 256)) ∧ Below w.heap.size w w' := by
  obtain ⟨i0, hi, hz0, hz1, hz2⟩ := info_parts infoBk
  have hz := zero_bk
  go_enter Try.func25, Try.ntmps25
  go_wp2_with fail
  go_loopw [0, 3] (fun t v wr => ∃ (k cap : Nat) (a : Option Addr) (sv : ByteArray), t = .string sv ∧ v = .slice a k cap ∧ (∀ j, tbyte sv j = tbyte s (256 * k + j)) ∧ (256 * k + sv.size = s.size ∨ sv.size = 0 ∧ k = leavesN s.size) ∧ wr.ownsRow w.heap.size 23 256 v k (byL (tbyte s) (k * 256)) ∧ Below w.heap.size w wr) (fun t _ _ => match t with | .string x => x.size | _ => 0)
  case atStart => exact ⟨0, 0, none, s, rfl, rfl, fun j => by simp, .inl (by simp), World.ownsRow_nil _ _ _ _, Below.refl _ _⟩
  case round =>
    obtain ⟨k, cap, a, sv, rfl, rfl, hsv, hk, hown, hb⟩ := hrel
    have hv := hown.lt
    have hsz := hb.size
    by_cases hlt : 0 < sv.size
    · have hk1 : 256 * k + sv.size = s.size := by rcases hk with h | h <;> omega
      have HSV : Hid (∀ j, tbyte sv j = tbyte s (256 * k + j)) := hsv
      have HLC : Hid (byL (tbyte s) ((k + 1) * 256) = byL (tbyte s) (k * 256) ++ (va 256 (iv .u8 (tbyte sv))).toList) := leaf_cells s sv k hsv
      obtain ⟨L, hL⟩ : ∃ L : Nat, L = sv.size := ⟨_, rfl⟩
      obtain ⟨n, hn⟩ : ∃ n, n = Nat.min sv.size 256 := ⟨_, rfl⟩
      have hn' : n = min sv.size 256 := hn
      have n1 : n ≤ L := by omega
      have n2 : n = 256 ∨ n = L := by omega
      have n3 : 1 ≤ n := by omega
      have n4 : n ≤ 256 := by omega
      have HDB : Hid (∀ j, tbyte (sv.extract n sv.size) j = tbyte s (256 * (k + 1) + j)) := drop_byte s sv k n hsv (by omega) (by omega) (by omega) hk1
      have hES := extract_size sv n sv.size (Nat.le_refl _)
      have c0 := Blk.new wr 23 (va 256 (iv .u8 fun _ => 0))
      have hcp := run_copy_text (P := Try.prog) (wr.alloc (Obj.cells (va 256 (iv .u8 fun _ => 0)) 23)) 78 9 3 5 wr.heap.size 0 256 256 sv _ 23 n Try.underlying78 ksizeU8 c0 hn (by rw [va_size]; omega)
      have e0 : (splice (va 256 (iv .u8 fun _ => 0)).toList 0 (byL (tbyte sv) n)).toArray = va 256 (iv .u8 (tbyte sv)) := by
        rw [splice_put 256 0 n (fun _ => 0) (tbyte sv) (by omega)]
        refine va_congr fun i hi => ?_
        unfold iv putAt
        by_cases h : i < n
        · rw [if_pos (by omega), Nat.sub_zero]
        · rw [if_neg (by omega), tbyte_out sv i (by omega)]
      rw [e0] at hcp
      have c1 := c0.set (va 256 (iv .u8 (tbyte sv)))
      have hb1 : Below w.heap.size w ((wr.alloc (Obj.cells (va 256 (iv .u8 fun _ => 0)) 23)).setRow wr.heap.size (va 256 (iv .u8 (tbyte sv)))) := below_setRow (hb.alloc hsz _) hsz _
      have hown1 : ((wr.alloc (Obj.cells (va 256 (iv .u8 fun _ => 0)) 23)).setRow wr.heap.size (va 256 (iv .u8 (tbyte sv)))).ownsRow w.heap.size 23 256 (.slice a k cap) k (byL (tbyte s) (k * 256)) := kown_setRow (hown.alloc _) (fun q _ hq => Nat.ne_of_lt ((hv q hq).2)) _
      have HK1 : Hid (256 * k + sv.size = s.size) := hk1
      have HL : Hid (L = sv.size) := hL
      have t1 : (0 : Int) < (L : Int) := by omega
      have t2 : (0 : Int) ≤ (n : Int) := by omega
      have t3 : (n : Int) ≤ (L : Int) := by omega
      have hL' : sv.size = L := hL.symm
      have c1l := c1.lt
      have hb1s := hb1.size
      clear hown hb hk hn hn' hk1 e0 c0 hL
      generalize (wr.alloc (Obj.cells (va 256 (iv .u8 fun _ => 0)) 23)).setRow wr.heap.size (va 256 (iv .u8 (tbyte sv))) = w1 at *
      have HOWN : Hid ((w1.alloc (.cells (va 256 (iv .u8 (tbyte sv))) 23)).ownsRow w.heap.size 23 256 (.slice a k cap) k (byL (tbyte s) (k * 256))) := hown1.alloc _
      have HNEW : Hid (∀ j u, (va 256 (iv .u8 (tbyte sv))).toList[j]? = some u → (w1.alloc (.cells (va 256 (iv .u8 (tbyte sv))) 23)).cell? ((⟨w1.heap.size, 0, none⟩ : Addr).add j) = some u) := cells_new w1 _ _
      have HMEM : Hid (∀ u ∈ (va 256 (iv .u8 (tbyte sv))).toList, u.oneCell' = true) := kva_mem_one 256 (tbyte sv)
      have HLEN : Hid ((va 256 (iv .u8 (tbyte sv))).toList.length = 1 * 256) := by
        show _ = _
        rw [va_toList]
        simp
      have HV2 := hown1.lt
      have hkb : (k + 1) * 256 ≤ 140737488351488 := by have := HK1.out; omega
      clear hown1 hv
      go_wp2_with (first
        | (refine wpList_load_row (by rfl) 23 _ (by rfl) (wr.heap.size) (by rfl) 23 (va 256 (iv .u8 (tbyte sv))) (0, 0) _ c1 Try.underlying23 (by rfl) (sizeBk.trans (by rw [va_size])) ?_; simp only [Act.put, List.setIfInBounds_toArray, List.set_cons_zero, List.set_cons_succ])
        | (refine wpList_build1 (by rfl) 54 23 _ (by rfl) (va 256 (iv .u8 (tbyte sv))) (by rfl) i0 _ 256 Try.underlying54 hi hz0 hz1 (va_size _ _) (by decide) (by decide) ?_; simp only [Act.put, List.setIfInBounds_toArray, List.set_cons_zero, List.set_cons_succ])
        | (at_builtin; refine wpList_append_own _ rfl _ _ 54 rfl w.heap.size 23 i0 (.agg (va 256 (iv .u8 fun _ => 0))) 256 256 Try.underlying54 hi hz0 hz1 hz2 (va_size _ _) (by decide) _ _ _ rfl HOWN.out ⟨w1.heap.size, 0, none⟩ 1 1 (va 256 (iv .u8 (tbyte sv))).toList rfl HLEN.out HNEW.out HMEM.out (by unfold maxLen; omega) (by omega) (by simp; omega) ?_)
        | go_in)
      intro v' w2 hown' hgrow _
      have hb2 : Below w.heap.size w w2 := (hb1.alloc hb1s _).grown hgrow (by simp; omega) (fun k hk => (HV2 k hk).1)
      rw [← HLC.out] at hown'
      obtain ⟨g3, cap3, rfl, hg3, hg3'⟩ := kown_form hown' (Nat.succ_pos k)
      clear HOWN HNEW HMEM HLEN HV2 hgrow hb1 c1 hcp
      go_wp2_with fail
      go_roundw
      case rel =>
        refine ⟨k + 1, cap3, _, _, rfl, rfl, ?_, ?_, hown', hb2⟩
        · rw [← hL']
          exact HDB.out
        · have h1 := HK1.out
          rw [← hL', hES]
          unfold leavesN
          omega
      case measure =>
        show (sv.extract n L).size < sv.size
        rw [← hL', hES]
        omega
    · have hs0 : sv.size = 0 := by omega
      have hk2 : Hid (k = leavesN s.size) := by
        show k = leavesN s.size
        rcases hk with h | h
        · unfold leavesN
          omega
        · exact h.2
      clear hk hsv
      go_wp2_with fail
      go_ret
      refine ⟨_, rfl, ?_, hb⟩
      rw [← hk2.out]
      exact hown
/-- a slice of blocks that the program made, told as one that is handed on -/
theorem own_blks {w : World} {B : Nat} {e : TypeId} {v : Value} {c : Nat} {F : Nat → Nat} (h : w.ownsRow B e 256 v c (byL F (c * 256))) : ∃ a cap, v = .slice a c cap ∧ IsBlks w a c fun i j => F (256 * i + j) := by
  rcases h.2 with ⟨rfl, rfl⟩ | ⟨g, cap, cur, rfl, hb, hg, hcap, _, hsz, htake⟩
  · exact ⟨none, 0, rfl, fun i hi => absurd hi (by omega)⟩
  · refine ⟨_, cap, rfl, fun i hi => ⟨g, 0, rfl, (Array.getElem?_eq_some_iff.1 hg).1, fun j u hu => ?_⟩⟩
    have hj : j < 256 := by
      have := (List.getElem?_eq_some_iff.1 hu).1
      simpa using this
    rw [show 0 + i * 256 + j = i * 256 + j by omega, h.cellAt (i * 256 + j) (by omega), byL_at _ _ _ (by omega), ← hu]
    simp [hj, iv, show 256 * i + j = i * 256 + j by omega]
end Go.Proofs.Ytaoglljkghkbpaa
