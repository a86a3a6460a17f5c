/- As the law for a region in parts; in the place of 'the memory below B is as it was' stands whatever S is shown to hold behind each part. No program in it. -/
import Derived.Test.YtdniigefmlmcdaaHNdTake
import Derived.Handy
import Derived.Test.YtdniigefmlmcdaaRows
import Derived.WalkKit
import Derived.ProofKit
import Derived.OpenShut
import Derived.Carry
import Derived.Deep.Slices
import Derived.Lib.SmallJoins
import Derived.SizedLaws
import Derived.Test.YtdniigefmlmcdaaHMathCount
import Derived.Test.YtdniigefmlmcdaaHTurnsMix

namespace Go.Proofs.Ytdniigefmlmcdaa
open Go Go.RowKit
set_option linter.unusedSimpArgs false
set_option linter.unusedVariables false

/-- a reference, as a plain thing -/
abbrev Rf := Nat × Vector Nat 32
def rfC (r : Rf) : Array Value := va 33 (rfF r.1 r.2)
def rf0 : Rf := (0, Vector.replicate 32 0)
theorem rfC_size (r : Rf) : (rfC r).size = 33 := va_size _ _
theorem rfF_one (a : Nat) (d : Vector Nat 32) (i : Nat) : (rfF a d i).oneCell' = true := by
  unfold rfF
  split <;> rfl
theorem rfC_all (r : Rf) : (rfC r).all (·.oneCell') = true := va_one fun i _ => rfF_one _ _ _
/-- is a reference right? -/
def rOk (r : Rf) : Bool := decide (r = rf0) || decide (r.1 ≠ 0)
/-- four references, a node -/
def kdF (K : Nat → Rf) : Nat → Value := fun i => rfF (K (i / 33)).1 (K (i / 33)).2 (i % 33)
def kdC (K : Nat → Rf) : Array Value := va 132 (kdF K)
def ndF (l : Int) (K : Nat → Rf) : Nat → Value := fun i => if i = 0 then .int .i64 l else kdF K (i - 1)
def ndC (l : Int) (K : Nat → Rf) : Array Value := va 133 (ndF l K)
theorem kdC_size (K : Nat → Rf) : (kdC K).size = 132 := va_size _ _
theorem ndC_size (l : Int) (K : Nat → Rf) : (ndC l K).size = 133 := va_size _ _
theorem kdC_all (K : Nat → Rf) : (kdC K).all (·.oneCell') = true := va_one fun i _ => rfF_one _ _ _
theorem ndC_all (l : Int) (K : Nat → Rf) : (ndC l K).all (·.oneCell') = true := va_one fun i _ => by
  unfold ndF
  split
  · rfl
  · exact rfF_one _ _ _
theorem kdF_at (K : Nat → Rf) (i j : Nat) (hj : j < 33) : kdF K (i * 33 + j) = rfF (K i).1 (K i).2 j := by
  unfold kdF
  rw [show (i * 33 + j) / 33 = i by omega, show (i * 33 + j) % 33 = j by omega]
theorem ndF_at (l : Int) (K : Nat → Rf) (i j : Nat) (hj : j < 33) : ndF l K (1 + i * 33 + j) = rfF (K i).1 (K i).2 j := by
  unfold ndF
  rw [if_neg (by omega), show 1 + i * 33 + j - 1 = i * 33 + j by omega, kdF_at K i j hj]
theorem kd_extract (K : Nat → Rf) (i : Nat) (hi : i < 4) : (kdC K).extract (i * 33) (i * 33 + 33) = rfC (K i) := by
  unfold kdC rfC
  rw [va_extract 132 (i * 33) 33 _ (by omega)]
  exact va_congr fun j hj => kdF_at K i j hj
theorem nd_extract (l : Int) (K : Nat → Rf) : (ndC l K).extract 1 (1 + 132) = kdC K := by
  unfold ndC kdC
  rw [va_extract 133 1 132 _ (by omega)]
  refine va_congr fun j hj => ?_
  unfold ndF
  rw [if_neg (by omega), show 1 + j - 1 = j by omega]
theorem kd_congr {K K' : Nat → Rf} (h : ∀ i, i < 4 → K i = K' i) : kdC K = kdC K' := va_congr fun i hi => by
  unfold kdF
  rw [h _ (by omega)]
theorem nd_congr {l : Int} {K K' : Nat → Rf} (h : ∀ i, i < 4 → K i = K' i) : ndC l K = ndC l K' := va_congr fun i hi => by
  unfold ndF kdF
  by_cases h0 : i = 0
  · rw [if_pos h0, if_pos h0]
  · rw [if_neg h0, if_neg h0, h _ (by omega)]
theorem sizeKid : (Try.prog.info? 153).map (·.size) = some 132 := by kernel_rfl
theorem sizeNode : (Try.prog.info? 155).map (·.size) = some 133 := by kernel_rfl
theorem sizeRref : (Try.prog.info? 70).map (·.size) = some 33 := by kernel_rfl
theorem ndSize32 : (Try.prog.info? 33).map (·.size) = some 32 := by kernel_rfl
theorem zero_of {t : TypeId} {v : Value} (h : (Try.prog.info? t).bind (·.zero) = some v) (w : World) : (zeroValue t).run Try.prog w = .ok v w := by
  cases hq : Try.prog.info? t with
  | none => simp [hq] at h
  | some i =>
    have hi : i.zero = some v := by simpa [hq] using h
    simp [zeroValue, typeInfo, hq, hi]
theorem zero_ref (w : World) : (zeroValue 48).run Try.prog w = .ok (.agg (rfC rf0)) w := zero_of (by kernel_rfl) w
theorem zero_rref (w : World) : (zeroValue 70).run Try.prog w = .ok (.agg (rfC rf0)) w := zero_of (by kernel_rfl) w
theorem zero_kid (w : World) : (zeroValue 153).run Try.prog w = .ok (.agg (kdC fun _ => rf0)) w := zero_of (by kernel_rfl) w
theorem zero_node (w : World) : (zeroValue 155).run Try.prog w = .ok (.agg (ndC 0 fun _ => rf0)) w := zero_of (by kernel_rfl) w
theorem zero_256 (w : World) : (zeroValue 59).run Try.prog w = .ok (.agg (va 256 (iv .u8 fun _ => 0))) w := zero_of (by kernel_rfl) w
theorem built_ref0 : Try.prog.built 48 [] = some (rfC rf0) := by kernel_rfl
theorem built_rref0 : Try.prog.built 70 [] = some (rfC rf0) := by kernel_rfl
theorem built_node0 : Try.prog.built 155 [] = some (ndC 0 fun _ => rf0) := by kernel_rfl
theorem built_rref (a : Nat) (d : Vector Nat 32) : Try.prog.built 70 [(0, .int .u32 (a : Int)), (1, .agg (va 32 (iv .u8 (dF d))))] = some (rfC (a, d)) := by kernel_rfl
theorem built_rref1 (a : Nat) : Try.prog.built 70 [(0, .int .u32 (a : Int))] = some (rfC (a, Vector.replicate 32 0)) := by kernel_rfl
theorem built_node1 (l : Int) : Try.prog.built 155 [(0, .int .i64 l)] = some (ndC l fun _ => rf0) := by kernel_rfl
/-- items of an array compared, whatever they are -/
theorem run_items_any {P : Program} {w : World} {e : TypeId} (d c : Nat) (X Y : Nat → Value) (b : Nat → Bool) (xs ys : Array Value) :
    ∀ is : List Nat, (∀ i ∈ is, (part e xs (i * c)).run P w = .ok (X i) w ∧ (part e ys (i * c)).run P w = .ok (Y i) w ∧ (Op.equalIn d e (X i) (Y i)).run P w = .ok (b i) w) → (Op.eqItems d e c xs ys is).run P w = .ok (is.all b) w
  | [], _ => by simp [Op.eqItems]
  | i :: is, h => by
    obtain ⟨p1, p2, p3⟩ := h i (by simp)
    have ih := run_items_any (w := w) d c X Y b xs ys is fun j hj => h j (by simp [hj])
    simp only [Op.eqItems, Sem.run_bind, p1, p2, p3, Result.andThen_ok]
    cases hq : b i
    · simp only [Bool.not_false, if_true, Sem.run_pure, List.all_cons, hq, Bool.false_and]
    · simp only [Bool.not_true, Bool.false_eq_true, if_false, ih, List.all_cons, hq, Bool.true_and]
theorem part_agg (t n : Nat) (u : TypeDesc) (hu : Try.prog.underlying t = some u) (hd : u.isRow = true) (hs : (Try.prog.info? t).map (·.size) = some n) (cs ds : Array Value) (o : Nat) (he : cs.extract o (o + n) = ds) (w : World) : (part t cs o).run Try.prog w = .ok (.agg ds) w := by
  cases u <;> simp [TypeDesc.isRow] at hd <;> simp [part, isAgg, run_underlying hu, size_at _ _ hs, he]
/-- two references compared -/
theorem eq_ref (d : Nat) (a b : Rf) (w : World) : (Op.equalIn (d + 1 + 1 + 1) 48 (.agg (rfC a)) (.agg (rfC b))).run Try.prog w = .ok (decide (a = b)) w := eq_root d a.1 b.1 a.2 b.2 w
theorem part_sum32 (a : Nat) (d : Vector Nat 32) (w : World) : (part 33 (va 33 (rfF a d)) 1).run Try.prog w = .ok (dK d) w :=
  part_agg _ 32 _ Try.underlying33 rfl ndSize32 _ _ 1 (by rw [va_extract 33 1 32 _ (by decide), rf_sum]) w
theorem eq_rref (d : Nat) (a b : Rf) (w : World) : (Op.equalIn (d + 1 + 1 + 1) 70 (.agg (rfC a)) (.agg (rfC b))).run Try.prog w = .ok (decide (a = b)) w := by
  have h1 : (Op.equalIn (d + 1 + 1) 32 (.int .u32 (a.1 : Int)) (.int .u32 (b.1 : Int))).run Try.prog w = .ok ((a.1 : Int) == (b.1 : Int)) w := by simp [Op.equalIn, run_underlying Try.underlying32]
  have h2 := eq_digAt d 33 Try.underlying33 a.2 b.2 w
  have hd : decide (a = b) = (((a.1 : Int) == (b.1 : Int)) && decide (a.2 = b.2)) := by
    obtain ⟨a1, a2⟩ := a
    obtain ⟨b1, b2⟩ := b
    rw [Bool.eq_iff_iff]
    simp only [decide_eq_true_eq, Bool.and_eq_true, beq_iff_eq, Prod.mk.injEq]
    constructor
    · rintro ⟨h, k⟩
      exact ⟨by omega, k⟩
    · rintro ⟨h, k⟩
      exact ⟨by omega, k⟩
  rw [hd]
  have p1 : (part 32 (rfC a) 0).run Try.prog w = .ok (.int .u32 ((a.1 : Nat) : Int)) w := part_int _ _ Try.underlying32 _ _ _ (va_at (rfF a.1 a.2) (by decide)) w
  have q1 : (part 32 (rfC b) 0).run Try.prog w = .ok (.int .u32 ((b.1 : Nat) : Int)) w := part_int _ _ Try.underlying32 _ _ _ (va_at (rfF b.1 b.2) (by decide)) w
  have p2 : (part 33 (rfC a) 1).run Try.prog w = .ok (dK a.2) w := part_sum32 a.1 a.2 w
  have q2 : (part 33 (rfC b) 1).run Try.prog w = .ok (dK b.2) w := part_sum32 b.1 b.2 w
  generalize rfC a = cs at *
  generalize rfC b = ds at *
  have hu : Try.prog.underlying 70 = some (.struct (Try.prog.fieldsOf 70)) := by kernel_rfl
  have hp : Try.prog.stoodInHeld 70 = false := by kernel_rfl
  have hf : (Try.prog.fieldsOf 70).toList.map (fun f => (f.name == "_", f.type, f.offset)) = [(false, 32, 0), (false, 33, 1)] := by kernel_rfl
  exact run_eq_two hu hp hf p1 q1 p2 q2 h1 h2
/-- two nodes are the same -/
abbrev ndSame (l : Int) (K : Nat → Rf) (l' : Int) (K' : Nat → Rf) : Prop := l = l' ∧ ∀ i, i < 4 → K i = K' i
theorem eq_nodeAt (t tk tr : TypeId) (hk : Try.prog.underlying tk = some (.array 4 tr)) (ur : TypeDesc) (hur : Try.prog.underlying tr = some ur) (hrr : ur.isRow = true) (hsr : (Try.prog.info? tr).map (·.size) = some 33) (hcr : Try.prog.cellsOf tr = 33)
    (hsk : (Try.prog.info? tk).map (·.size) = some 132) (hu : Try.prog.underlying t = some (.struct (Try.prog.fieldsOf t))) (hp : Try.prog.stoodInHeld t = false)
    (hf : (Try.prog.fieldsOf t).toList.map (fun f => (f.name == "_", f.type, f.offset)) = [(false, 3, 0), (false, tk, 1)])
    (HR : ∀ (d : Nat) (a b : Rf) (w : World), (Op.equalIn (d + 1 + 1 + 1) tr (.agg (rfC a)) (.agg (rfC b))).run Try.prog w = .ok (decide (a = b)) w)
    (l l' : Int) (K K' : Nat → Rf) (w : World) : (Op.equalIn 10000 t (.agg (ndC l K)) (.agg (ndC l' K'))).run Try.prog w = .ok (decide (ndSame l K l' K')) w := by
  obtain ⟨ir, hir⟩ : ∃ i, Try.prog.info? tr = some i := by
    cases hq : Try.prog.info? tr with
    | none => simp [hq] at hsr
    | some i => exact ⟨i, rfl⟩
  have h1 : ∀ d, (Op.equalIn (d + 1) 3 (.int .i64 l) (.int .i64 l')).run Try.prog w = .ok (l == l') w := fun d => by simp [Op.equalIn, run_underlying Try.underlying3]
  have h2 : (Op.equalIn 9999 tk (.agg (kdC K)) (.agg (kdC K'))).run Try.prog w = .ok ((List.range 4).all fun i => decide (K i = K' i)) w := by
    rw [show (9999 : Nat) = 9998 + 1 from rfl, run_equalIn_array w 9998 (kdC K) (kdC K') hk hir, hcr]
    refine run_items_any 9998 33 (fun i => .agg (rfC (K i))) (fun i => .agg (rfC (K' i))) _ _ _ _ fun i hi => ?_
    have hi4 : i < 4 := by simpa using hi
    exact ⟨part_agg _ 33 _ hur hrr hsr _ _ _ (kd_extract K i hi4) w, part_agg _ 33 _ hur hrr hsr _ _ _ (kd_extract K' i hi4) w, HR 9995 _ _ w⟩
  have hd : decide (ndSame l K l' K') = ((l == l') && (List.range 4).all fun i => decide (K i = K' i)) := by
    rw [Bool.eq_iff_iff, decide_eq_true_eq, Bool.and_eq_true, List.all_eq_true, beq_iff_eq]
    simp only [List.mem_range, decide_eq_true_eq]
  rw [hd]
  have p1 : ∀ (l : Int) (K : Nat → Rf), (part 3 (ndC l K) 0).run Try.prog w = .ok (.int .i64 l) w := fun l K => part_int _ _ Try.underlying3 _ _ _ (va_at (ndF l K) (by decide)) w
  have uk : TypeDesc.isRow (.array 4 tr) = true := rfl
  have p2 : ∀ (l : Int) (K : Nat → Rf), (part tk (ndC l K) 1).run Try.prog w = .ok (.agg (kdC K)) w := fun l K => part_agg _ 132 _ hk uk hsk _ _ 1 (nd_extract l K) w
  exact run_eq_two hu hp hf (p1 l K) (p1 l' K') (p2 l K) (p2 l' K') (h1 9998) h2
theorem eq_node (l l' : Int) (K K' : Nat → Rf) (w : World) : (Op.equalIn 10000 155 (.agg (ndC l K)) (.agg (ndC l' K'))).run Try.prog w = .ok (decide (ndSame l K l' K')) w :=
  eq_nodeAt 155 153 48 Try.underlying153 _ Try.underlying48 rfl slSizeRef (by kernel_rfl) sizeKid (by kernel_rfl) (by kernel_rfl) (by kernel_rfl) eq_ref l l' K K' w
/-- texts one behind the other -/
theorem tbyte_append (s t : ByteArray) (j : Nat) : tbyte (s ++ t) j = if j < s.size then tbyte s j else tbyte t (j - s.size) := by
  have hs : s.data.toList.length = s.size := Array.length_toList
  have e : (s ++ t).data.toList = s.data.toList ++ t.data.toList := by
    rw [ByteArray.data_append, Array.toList_append]
  unfold tbyte
  rw [e, List.getD_eq_getElem?_getD]
  by_cases h : j < s.size
  · rw [if_pos h, List.getElem?_append_left (by omega), List.getD_eq_getElem?_getD]
  · rw [if_neg h, List.getElem?_append_right (by omega), List.getD_eq_getElem?_getD, hs]
theorem strN_append (f : Nat → Nat) (a b : Nat) (hf : ∀ j, j < a + b → f j < 256) : strN f a ++ strN (fun j => f (a + j)) b = strN f (a + b) := by
  refine text_ext (by rw [ByteArray.size_append, strN_size, strN_size, strN_size]) fun j hj => ?_
  rw [ByteArray.size_append, strN_size, strN_size] at hj
  rw [tbyte_append, strN_size, strN_at f (a + b) j hj (hf j hj)]
  by_cases h : j < a
  · rw [if_pos h, strN_at f a j h (hf j (by omega))]
  · rw [if_neg h]
    have e : a + (j - a) = j := by omega
    rw [strN_at _ b (j - a) (by omega) (by rw [e]; exact hf j hj), e]
/-- a reference's bytes -/
def encR (r : Rf) : Nat → Nat := fun j => if j < 4 then dig r.1 j else dF r.2 (j - 4)
/-- a digest of bytes -/
def okD (d : Vector Nat 32) : Prop := ∀ i, i < 32 → dF d i < 256
theorem encR_lt (r : Rf) (hr : okD r.2) (j : Nat) (hj : j < 36) : encR r j < 256 := by
  unfold encR
  split
  · exact dig_lt _ _
  · exact hr _ (by omega)
theorem okD_zero : okD (Vector.replicate 32 0) := fun i hi => by
  unfold dF
  simp [hi]
theorem okD_sum (f : Nat → Nat) (h : ∀ i, i < 32 → f i < 256) : okD (sumD f) := fun i hi => by
  rw [dF_sumD f i hi]
  exact h i hi
end Go.Proofs.Ytdniigefmlmcdaa

namespace Go.Proofs.Ytdniigefmlmcdaa
open Go.ChangeShapes Go.WideShapes Go.ChangeAt Go.RowKit Go.Joins
set_option linter.unusedVariables false
set_option linter.unusedSimpArgs false

theorem nd_take_one {l : List Value} {o : Nat} {v : Value} (h : (l.drop o).take 1 = [v]) : l[o]? = some v := by
  have h2 : (l.drop o).head? = some v := by
    cases hd : l.drop o with
    | nil => rw [hd] at h; simp at h
    | cons a t => rw [hd] at h; simp at h; rw [h]; rfl
  rw [List.head?_drop] at h2
  exact h2
set_option maxRecDepth 100000 in
theorem open_ref_cells {H : Type} {enc : TypeId × Value → H} {W : World} {fuel : Nat} {l : List Value} {x : DataW H × List MemPlace} (hl : l.length = 33)
    (hf : DataW.trod enc Try.prog W 0 (fun _ => true) true fuel 48 l = some x) :
    ∃ r : Rf, l = (rfC r).toList ∧ r.1 < 4294967296 ∧ okD r.2 := by
  have hc4 : Try.prog.cellsOf 32 = 1 := by kernel_rfl
  have hc1 : Try.prog.cellsOf 5 = 1 := by kernel_rfl
  have hcs : Try.prog.cellsOf 44 = 32 := by kernel_rfl
  obtain ⟨zs, k', hk', hzy, _, hzl, hgs⟩ := DataW.trod_struct Try.underlying48 hf
  match zs, hzl with
  | [z0, z1], _ =>
    have q0 : DataW.trod enc Try.prog W 0 (fun _ => true) true k' 32 ((l.drop 0).take (Try.prog.cellsOf 32)) = some z0 := hgs 0 _ rfl
    have q1 : DataW.trod enc Try.prog W 0 (fun _ => true) true k' 44 ((l.drop 1).take (Try.prog.cellsOf 44)) = some z1 := hgs 1 _ rfl
    rw [hc4] at q0
    rw [hcs] at q1
    obtain ⟨a, e1, _, w1⟩ := DataW.trod_int Try.underlying32 q0
    have hby := trod_bytes Try.underlying44 Try.underlying5 hc1 q1
    have b1 := bounds_u32 w1
    have l1 : l[0]? = some (.int .u32 a) := nd_take_one e1
    have l2 : ∀ i, i < 32 → ∃ z : Nat, l[1 + i]? = some (.int .u8 ((z : Nat) : Int)) ∧ z < 256 := fun i hi => by
      obtain ⟨z, h1, h2⟩ := hby i hi
      refine ⟨z, ?_, h2⟩
      rw [List.getElem?_take, if_pos hi, List.getElem?_drop] at h1
      exact h1
    obtain ⟨f, hfz⟩ : ∃ f : Nat → Nat, ∀ i, i < 32 → l[1 + i]? = some (.int .u8 ((f i : Nat) : Int)) ∧ f i < 256 := ⟨fun i => if h : i < 32 then Classical.choose (l2 i h) else 0, fun i hi => by
      simp only [dif_pos hi]
      exact Classical.choose_spec (l2 i hi)⟩
    refine ⟨(a.toNat, sumD f), ?_, by show a.toNat < _; omega, okD_sum f fun i hi => (hfz i hi).2⟩
    apply List.ext_getElem?
    intro i
    by_cases hi : i < 33
    · have hr : (rfC (a.toNat, sumD f)).toList[i]? = some (rfF a.toNat (sumD f) i) := by
        have := va_at (rfF a.toNat (sumD f)) hi
        unfold rfC
        simpa using this
      rw [hr]
      unfold rfF
      by_cases h1 : i = 0
      · subst h1
        rw [if_pos rfl, l1]
        congr 2
        show a = ((a.toNat : Nat) : Int)
        omega
      · rw [if_neg h1]
        have := (hfz (i - 1) (by omega)).1
        rw [show 1 + (i - 1) = i by omega] at this
        rw [this]
        congr 3
        show f (i - 1) = dF (sumD f) (i - 1)
        rw [dF_sumD f _ (by omega)]
    · rw [List.getElem?_eq_none (by omega), List.getElem?_eq_none (by rw [Array.length_toList, rfC_size]; omega)]
set_option maxRecDepth 100000 in
theorem open_ref {H : Type} {enc : TypeId × Value → H} {W : World} {r : Reach} {b0 : Nat} {v : Value} {d : DataW H} {p : List MemPlace}
    (hv : Value.okWide Try.prog W r b0 48 v) (h : DataW.Trod enc Try.prog W 0 (fun _ => true) true 48 v d p) :
    ∃ s : Rf, v = .agg (rfC s) ∧ s.1 < 4294967296 ∧ okD s.2 := by
  obtain ⟨cs, rfl, hcs⟩ := okWide_struct Try.underlying48 hv
  obtain ⟨fuel, hf⟩ := h
  have hc : Try.prog.cellsOf 48 = 33 := by kernel_rfl
  rw [hc] at hcs
  have hl : cs.toList.length = 33 := by rw [Array.length_toList]; exact hcs
  obtain ⟨s, h0, h1, h2⟩ := open_ref_cells hl (show DataW.trod enc Try.prog W 0 (fun _ => true) true fuel 48 cs.toList = some (d, p) from hf)
  refine ⟨s, ?_, h1, h2⟩
  congr 1
  exact Array.toList_inj.1 h0
set_option maxRecDepth 100000 in
theorem open_node_cells {H : Type} {enc : TypeId × Value → H} {W : World} {fuel : Nat} {l : List Value} {x : DataW H × List MemPlace} (hl : l.length = 133)
    (hf : DataW.trod enc Try.prog W 0 (fun _ => true) true fuel 155 l = some x) :
    ∃ (n : Int) (K : Nat → Rf), l = (ndC n K).toList ∧ (-9223372036854775808 ≤ n ∧ n ≤ 9223372036854775807) ∧ (∀ i, i < 4 → (K i).1 < 4294967296) ∧ ∀ i, i < 4 → okD (K i).2 := by
  have hc8 : Try.prog.cellsOf 3 = 1 := by kernel_rfl
  have hcr : Try.prog.cellsOf 48 = 33 := by kernel_rfl
  have hck : Try.prog.cellsOf 153 = 132 := by kernel_rfl
  obtain ⟨xs, k, hk, hxy, _, hxl, hfs⟩ := DataW.trod_struct Try.underlying155 hf
  match xs, hxl with
  | [y0, y1], _ =>
    have g0 : DataW.trod enc Try.prog W 0 (fun _ => true) true k 3 ((l.drop 0).take (Try.prog.cellsOf 3)) = some y0 := hfs 0 _ rfl
    have g1 : DataW.trod enc Try.prog W 0 (fun _ => true) true k 153 ((l.drop 1).take (Try.prog.cellsOf 153)) = some y1 := hfs 1 _ rfl
    rw [hc8] at g0
    rw [hck] at g1
    obtain ⟨c, e0, _, w0⟩ := DataW.trod_int Try.underlying3 g0
    obtain ⟨zs, m, hm, hx, hzl, hn, hall⟩ := DataW.trod_array Try.underlying153 g1
    have b0 := bounds_i64 w0
    have l0 : l[0]? = some (.int .i64 c) := nd_take_one e0
    have each : ∀ i, i < 4 → ∃ r : Rf, ((((l.drop 1).take 132).drop (i * 33)).take 33) = (rfC r).toList ∧ r.1 < 4294967296 ∧ okD r.2 := fun i hi => by
      have h1 := hall i hi
      have hget : zs[i]? = some zs[i] := List.getElem?_eq_getElem (by omega)
      rw [hget, hcr] at h1
      refine open_ref_cells ?_ h1
      rw [List.length_take, List.length_drop, List.length_take, List.length_drop, hl]
      omega
    obtain ⟨K, hKz⟩ : ∃ K : Nat → Rf, ∀ i, i < 4 → ((((l.drop 1).take 132).drop (i * 33)).take 33) = (rfC (K i)).toList ∧ (K i).1 < 4294967296 ∧ okD (K i).2 := ⟨fun i => if h : i < 4 then Classical.choose (each i h) else rf0, fun i hi => by
      simp only [dif_pos hi]
      exact Classical.choose_spec (each i hi)⟩
    refine ⟨c, K, ?_, b0, fun i hi => (hKz i hi).2.1, fun i hi => (hKz i hi).2.2⟩
    apply List.ext_getElem?
    intro j
    by_cases hj : j < 133
    · have hr : (ndC c K).toList[j]? = some (ndF c K j) := by
        have := va_at (ndF c K) hj
        unfold ndC
        simpa using this
      rw [hr]
      by_cases h0 : j = 0
      · subst h0
        rw [l0]
        rfl
      · obtain ⟨i, q, hq, rfl⟩ : ∃ i q, q < 33 ∧ j = 1 + i * 33 + q := ⟨(j - 1) / 33, (j - 1) % 33, Nat.mod_lt _ (by decide), by omega⟩
        have hi : i < 4 := by omega
        rw [ndF_at c K i q hq]
        have h2 := (hKz i hi).1
        have h3 : (rfC (K i)).toList[q]? = some (rfF (K i).1 (K i).2 q) := by
          have := va_at (rfF (K i).1 (K i).2) hq
          unfold rfC
          simpa using this
        rw [← h2, List.getElem?_take, if_pos hq, List.getElem?_drop, List.getElem?_take, if_pos (by omega), List.getElem?_drop] at h3
        rw [← h3]
        congr 1
        omega
    · rw [List.getElem?_eq_none (by omega), List.getElem?_eq_none (by rw [Array.length_toList, ndC_size]; omega)]
set_option maxRecDepth 100000 in
theorem open_node {H : Type} {enc : TypeId × Value → H} {W : World} {r : Reach} {b0 : Nat} {v : Value} {d : DataW H} {p : List MemPlace}
    (hv : Value.okWide Try.prog W r b0 155 v) (h : DataW.Trod enc Try.prog W 0 (fun _ => true) true 155 v d p) :
    ∃ (n : Int) (K : Nat → Rf), v = .agg (ndC n K) ∧ (-9223372036854775808 ≤ n ∧ n ≤ 9223372036854775807) ∧ (∀ i, i < 4 → (K i).1 < 4294967296) ∧ ∀ i, i < 4 → okD (K i).2 := by
  obtain ⟨cs, rfl, hcs⟩ := okWide_struct Try.underlying155 hv
  obtain ⟨fuel, hf⟩ := h
  have hc : Try.prog.cellsOf 155 = 133 := by kernel_rfl
  rw [hc] at hcs
  have hl : cs.toList.length = 133 := by rw [Array.length_toList]; exact hcs
  obtain ⟨n, K, h0, h1, h2, h3⟩ := open_node_cells hl (show DataW.trod enc Try.prog W 0 (fun _ => true) true fuel 155 cs.toList = some (d, p) from hf)
  refine ⟨n, K, ?_, h1, h2, h3⟩
  congr 1
  exact Array.toList_inj.1 h0
end Go.Proofs.Ytdniigefmlmcdaa

namespace Go.Proofs.Ytdniigefmlmcdaa
open Go Go.RowKit

section
variable {P : Program} {ops : Array Oper} {Q : Exit → Act → World → Prop} {md : Region.Mode} {Wl : List Nat} {S : World → Prop}

theorem takeS_gen {i fuel : Nat} {o : Oper} {v : Value} {listed : Array Bool} {a : Act} {w : World} (hs : Region.noSelect ops = true) (hi : ops[i]? = some o) (hr : (Region.ready md ops listed).contains i = true)
    (hf : Region.free md ops listed i = true) (hWi : Wl.contains i = false) (hwait : waitW md ops listed i Wl (waitArr md ops listed i) = true) (hy : YieldsIf P ops S o v a) (hS : S w)
    (hK : wpAnyW P md ops (Strict Q) S (Wl.contains ·) fuel (listed.setIfInBounds i true) (a.put o.dst v) w) :
    wpAnyW P md ops (Strict Q) S (Wl.contains ·) (fuel + 1) listed a w := by
  generalize hwt : waitArr md ops listed i = arr at hwait
  unfold waitW at hwait
  rw [List.all_eq_true] at hwait
  have hall : ∀ j oj, ops[j]? = some oj → (if arr.getD j false then (j == i || oj.after.any fun e => Region.binds md e && arr.getD e.on false && decide (e.on < ops.size)) && !listed.getD j true else !Wl.contains j) = true := fun j oj hj => by
    have h1 := hwait j (List.mem_range.2 (Array.getElem?_eq_some_iff.1 hj).1)
    rw [hj] at h1; exact h1
  have hin : ∀ j, decide (j < ops.size) = true → ∃ oj, ops[j]? = some oj := fun j hj => ⟨_, Array.getElem?_eq_getElem (of_decide_eq_true hj)⟩
  refine wpAnyW_take hi (Region.noSelect_spec hs) (fun j => arr.getD j false && decide (j < ops.size)) (v := v) (strict_frame _ _) ?_ ?_ hWi fuel listed a w (Region.free_spec hi hf) ?_ (by simpa using hr) hy hS hK
  · intro j oj hj hw hne
    simp only [Bool.and_eq_true] at hw
    have h1 := hall j oj hj
    rw [if_pos hw.1] at h1
    simp only [Bool.and_eq_true, Bool.or_eq_true, beq_iff_eq, hne, false_or] at h1
    obtain ⟨e, he, hb⟩ := Array.any_eq_true'.1 h1.1
    simp only [Bool.and_eq_true] at hb
    exact ⟨e, he, hb.1.1, by simp only [Bool.and_eq_true]; exact ⟨hb.1.2, hb.2⟩⟩
  · intro j oj hj hw
    have hlt : decide (j < ops.size) = true := decide_eq_true (Array.getElem?_eq_some_iff.1 hj).1
    have h1 := hall j oj hj
    cases hq : arr.getD j false with
    | true => rw [hlt]; rfl
    | false => rw [if_neg (by rw [hq]; decide), hw] at h1; cases h1
  · intro j hw
    simp only [Bool.and_eq_true] at hw
    obtain ⟨oj, hj⟩ := hin j hw.2
    have h1 := hall j oj hj
    rw [if_pos hw.1] at h1
    simp only [Bool.and_eq_true, Bool.not_eq_true'] at h1
    exact h1.2

theorem forceS_step {i fuel : Nat} {listed : Array Bool} {a : Act} {w : World} (hb : forceW md ops listed i = true)
    (h : wpOp P ops (Strict Q) i (fun a' w' => (Wl.contains i = false → S w') ∧ wpAnyW P md ops (Strict Q) S (Wl.contains ·) fuel (listed.setIfInBounds i true) a' w') a w) :
    wpAnyW P md ops (Strict Q) S (Wl.contains ·) (fuel + 1) listed a w := by
  unfold forceW at hb
  simp only [Bool.and_eq_true, beq_iff_eq] at hb
  refine ⟨fun h0 => absurd (hb.1.symm.trans h0) (by simp), ?_⟩
  rw [hb.1]
  intro j hj
  have : j = i := by simpa using hj
  subst this; exact h

theorem takeS_step {i fuel : Nat} {listed : Array Bool} {a : Act} {w : World} (hs : Region.noSelect ops = true) (hb : takeW md ops listed Wl [] i = true) (hS : S w)
    (h : wpOp P ops (Strict Q) i (fun a' w' => S w' → wpAnyW P md ops (Strict Q) S (Wl.contains ·) fuel (listed.setIfInBounds i true) a' w') a w) :
    wpAnyW P md ops (Strict Q) S (Wl.contains ·) (fuel + 1) listed a w := by
  unfold takeW at hb
  cases hi : ops[i]? with
  | none => rw [hi] at hb; cases hb
  | some o =>
    rw [hi] at hb
    simp only [Bool.and_eq_true, Bool.or_eq_true, Bool.not_eq_true'] at hb
    obtain ⟨⟨⟨⟨hr, hf⟩, hWi⟩, hk⟩, hwait⟩ := hb
    have key : ∃ v, wpAnyW P md ops (Strict Q) S (Wl.contains ·) fuel (listed.setIfInBounds i true) (a.put o.dst v) w ∧ YieldsIf P ops S o v a := by
      unfold wpOp at h
      simp only [hi] at h
      by_cases hw : Region.wanted o (yielded ops a.tmps) = true
      · simp only [hw, if_true] at h
        rcases h with h | ⟨_, h⟩
        · unfold Oper.wp at h
          have hrun : ∃ v, (execOp a.eval o).run P w = .ok (.value v) w ∧ ∀ w', S w' → (execOp a.eval o).run P w' = .ok (.value v) w' := by
            cases hsr : (execOp a.eval o).run P w with
            | ok n w1 =>
              rcases hk with hk | hk
              · obtain ⟨hp, hv⟩ := kindV_run (P := P) hk a.eval
                obtain ⟨v, rfl⟩ := hv _ _ _ hsr
                obtain ⟨rfl, h2⟩ := hp _ _ _ hsr
                exact ⟨v, rfl, fun w' _ => h2 w'⟩
              · obtain ⟨t, x, hop, hx⟩ := lowLoad_run hk
                cases hx
            | halt y w1 =>
              rw [hsr] at h
              cases y <;> simp only [Oper.upon, Strict] at h <;> first | exact absurd h.1 (by intro e; cases e) | exact h.elim
          obtain ⟨v, h1, h2⟩ := hrun
          rw [h1, Oper.upon_value] at h
          exact ⟨v, h hS, .inl ⟨hw, h2⟩⟩
        · exact absurd h Strict.noOut
      · rw [Bool.not_eq_true] at hw
        simp only [hw, Bool.false_eq_true, if_false] at h
        exact ⟨undef, h hS, .inr ⟨hw, rfl⟩⟩
    obtain ⟨v, hK, hy⟩ := key
    exact takeS_gen hs hi hr hf hWi hwait hy hS hK

theorem takesS_step (hs : Region.noSelect ops = true) (more : List Nat) (fuel : Nat) (Q' : Exit → Act → World → Prop) :
    ∀ (ts : List Nat) (listed l2 : Array Bool) (a : Act) (w : World), takesB md ops Wl [] ts listed = some l2 →
      (∀ a' w', S w' → wpList P ops (Strict Q') (more.filterMap fun i => ops[i]?) a' w' → wpAnyW P md ops (Strict Q) S (Wl.contains ·) fuel l2 a' w') →
      S w → wpList P ops (Strict Q') ((ts ++ more).filterMap fun i => ops[i]?) a w →
      wpAnyW P md ops (Strict Q) S (Wl.contains ·) (ts.length + fuel) listed a w := by
  intro ts
  induction ts with
  | nil =>
    intro listed l2 a w hb hn hS h
    simp only [takesB, Option.some.injEq] at hb
    subst hb
    rw [List.length_nil, Nat.zero_add]
    exact hn a w hS h
  | cons i rest ih =>
    intro listed l2 a w hb hn hS h
    unfold takesB at hb
    split at hb
    · rename_i hc
      have hlen : (i :: rest).length + fuel = (rest.length + fuel) + 1 := by simp only [List.length_cons]; omega
      rw [hlen]
      obtain ⟨o, ho⟩ := has_op hc
      refine takeS_step hs hc hS (wpOp_mono (fun a' w' h' h2 => ?_) (wpOp_strict (wpList_one ho h)))
      exact ih _ l2 a' w' hb hn h2 h'
    · cases hb

theorem tailS_step : ∀ (ts : List Nat) (listed : Array Bool) (a : Act) (w : World), tailB md ops Wl ts listed = true → wpList P ops (Strict Q) (ts.filterMap fun i => ops[i]?) a w →
    wpAnyW P md ops (Strict Q) S (Wl.contains ·) ts.length listed a w
  | [], listed, a, w, hb, h => ⟨by simpa [tailB] using hb, h⟩
  | i :: rest, listed, a, w, hb, h => by
    simp only [tailB, Bool.and_eq_true] at hb
    obtain ⟨o, ho⟩ := has_op' hb.1.1
    refine forceS_step hb.1.1 (wpOp_mono (fun a' w' h' => ?_) (wpList_one ho h))
    exact ⟨fun e => (by rw [hb.1.2] at e; cases e), tailS_step rest _ a' w' hb.2 h'⟩

theorem partsS_step (hs : Region.noSelect ops = true) (takes tail : List Nat) :
    ∀ (ps : List (List Nat × Nat × Bool)) (listed : Array Bool) (a : Act) (w : World), partsB md ops Wl [] ps takes tail listed = true → S w →
      wpPartsI P ops Q S ps (takes ++ tail) a w → wpAnyW P md ops (Strict Q) S (Wl.contains ·) (lenOf ps (takes.length + tail.length)) listed a w
  | [], listed, a, w, hb, hS, h => by
    unfold partsB at hb
    split at hb
    · rename_i l2 hl2
      exact takesS_step hs tail tail.length Q takes listed l2 a w hl2 (fun a' w' _ h' => tailS_step tail l2 a' w' hb h') hS h
    · cases hb
  | (ts, i, false) :: rest, listed, a, w, hb, hS, h => by
    unfold partsB at hb
    split at hb
    · rename_i l2 hl2
      simp only [Bool.and_eq_true, Bool.not_eq_true', Bool.false_eq_true, if_false] at hb
      refine takesS_step hs [i] _ _ ts listed l2 a w hl2 (fun a' w' _ h' => ?_) hS h
      obtain ⟨o, ho⟩ := has_op' hb.1.1
      rw [Nat.add_comm 1]
      refine forceS_step hb.1.1 (wpOp_mono (fun a2 w2 h2 => ?_) (wpOp_strict (wpList_one ho h')))
      have h3 := h2.2
      exact ⟨fun _ => h3.1, partsS_step hs takes tail rest _ a2 w2 hb.2 h3.1 h3.2⟩
    · cases hb
  | (ts, i, true) :: rest, listed, a, w, hb, hS, h => by
    unfold partsB at hb
    split at hb
    · rename_i l2 hl2
      simp only [Bool.and_eq_true, if_true] at hb
      refine takesS_step hs [] _ _ ts listed l2 a w hl2 (fun a' w' hS' h' => ?_) hS h
      obtain ⟨-, o, v, ho, hy, hn⟩ := h'
      have hc := hb.1
      unfold yieldW at hc
      rw [ho] at hc
      simp only [Bool.and_eq_true, Bool.not_eq_true'] at hc
      rw [Nat.add_comm 1]
      exact takeS_gen hs ho hc.1.1.1 hc.1.1.2 hc.1.2 hc.2 hy hS' (partsS_step hs takes tail rest _ _ w' hb.2 hS' hn)
    · cases hb

/-- THE LAW. -/
theorem wp_region_partsS {id : Nat} {a : Act} {w : World} (S : World → Prop) (ps : List (List Nat × Nat × Bool)) (takes tail : List Nat) (hm : P.follows .mixedOrders = true) (hB : wholeB ops tail [] ps takes tail = true)
    (hS : S w.drew) (h : wpPartsI P ops Q S ps (takes ++ tail) a w.drew) : (Code.region id ops true).wp P Q a w := by
  unfold wholeB at hB
  simp only [Bool.and_eq_true, beq_iff_eq] at hB
  refine Code.wp_mono Strict.imp (wp_region_any hm ?_)
  rw [← hB.1.1.1]
  exact wpAny_of_W _ _ _ _ (partsS_step hB.1.1.2 takes tail ps _ a _ (by rw [hB.1.1.1]; exact hB.2) hS h)
end
end Go.Proofs.Ytdniigefmlmcdaa
