/- As the law for a region in parts; in the place of 'the memory below B is as it was' stands whatever S is shown to hold behind each part. No program in it. -/
import Derived.Test.YtednfpponkaelaaHNdTake
import Derived.Handy
import Derived.Lib.Bytealg
import Derived.Lib.Small
import Derived.Test.YtednfpponkaelaaHDigRow
import Derived.OpenShut
import Derived.Deep.MidRow

namespace Go.Proofs.Ytednfpponkaelaa
open Go Go.RowKit
set_option linter.unusedSimpArgs false
set_option linter.unusedVariables false

/-- a reference, as a plain thing -/
abbrev Rf := Nat × Vector Nat 32
def rfC (r : Rf) : Array Value := va 33 (rfF r.1 r.2)
def rf0 : Rf := (0, Vector.replicate 32 0)
theorem rfC_size (r : Rf) : (rfC r).size = 33 := va_size _ _
theorem rfF_one (a : Nat) (d : Vector Nat 32) (i : Nat) : (rfF a d i).oneCell' = true := by
  unfold rfF
  split <;> rfl
theorem rfC_all (r : Rf) : (rfC r).all (·.oneCell') = true := va_one fun i _ => rfF_one _ _ _
/-- is a reference right? -/
def rOk (r : Rf) : Bool := decide (r = rf0) || decide (r.1 ≠ 0)
/-- four references, a node -/
def kdF (K : Nat → Rf) : Nat → Value := fun i => rfF (K (i / 33)).1 (K (i / 33)).2 (i % 33)
def kdC (K : Nat → Rf) : Array Value := va 132 (kdF K)
def ndF (l : Int) (K : Nat → Rf) : Nat → Value := fun i => if i = 0 then .int .i64 l else kdF K (i - 1)
def ndC (l : Int) (K : Nat → Rf) : Array Value := va 133 (ndF l K)
theorem ndC_size (l : Int) (K : Nat → Rf) : (ndC l K).size = 133 := va_size _ _
theorem ndC_all (l : Int) (K : Nat → Rf) : (ndC l K).all (·.oneCell') = true := va_one fun i _ => by
  unfold ndF
  split
  · rfl
  · exact rfF_one _ _ _
theorem kdF_at (K : Nat → Rf) (i j : Nat) (hj : j < 33) : kdF K (i * 33 + j) = rfF (K i).1 (K i).2 j := by
  unfold kdF
  rw [show (i * 33 + j) / 33 = i by omega, show (i * 33 + j) % 33 = j by omega]
theorem ndF_at (l : Int) (K : Nat → Rf) (i j : Nat) (hj : j < 33) : ndF l K (1 + i * 33 + j) = rfF (K i).1 (K i).2 j := by
  unfold ndF
  rw [if_neg (by omega), show 1 + i * 33 + j - 1 = i * 33 + j by omega, kdF_at K i j hj]
theorem kd_extract (K : Nat → Rf) (i : Nat) (hi : i < 4) : (kdC K).extract (i * 33) (i * 33 + 33) = rfC (K i) := by
  unfold kdC rfC
  rw [va_extract 132 (i * 33) 33 _ (by omega)]
  exact va_congr fun j hj => kdF_at K i j hj
theorem nd_extract (l : Int) (K : Nat → Rf) : (ndC l K).extract 1 (1 + 132) = kdC K := by
  unfold ndC kdC
  rw [va_extract 133 1 132 _ (by omega)]
  refine va_congr fun j hj => ?_
  unfold ndF
  rw [if_neg (by omega), show 1 + j - 1 = j by omega]
theorem nd_congr {l : Int} {K K' : Nat → Rf} (h : ∀ i, i < 4 → K i = K' i) : ndC l K = ndC l K' := va_congr fun i hi => by
  unfold ndF kdF
  by_cases h0 : i = 0
  · rw [if_pos h0, if_pos h0]
  · rw [if_neg h0, if_neg h0, h _ (by omega)]
theorem sizeKid : (Try.prog.info? 45).map (·.size) = some 132 := by kernel_rfl
theorem sizeNode : (Try.prog.info? 47).map (·.size) = some 133 := by kernel_rfl
theorem sizeRref : (Try.prog.info? 27).map (·.size) = some 33 := by kernel_rfl
theorem ndSize32 : (Try.prog.info? 25).map (·.size) = some 32 := by kernel_rfl
theorem zero_of {t : TypeId} {v : Value} (h : (Try.prog.info? t).bind (·.zero) = some v) (w : World) : (zeroValue t).run Try.prog w = .ok v w := by
  cases hq : Try.prog.info? t with
  | none => simp [hq] at h
  | some i =>
    have hi : i.zero = some v := by simpa [hq] using h
    simp [zeroValue, typeInfo, hq, hi]
theorem zero_ref (w : World) : (zeroValue 31).run Try.prog w = .ok (.agg (rfC rf0)) w := zero_of (by kernel_rfl) w
theorem zero_rref (w : World) : (zeroValue 27).run Try.prog w = .ok (.agg (rfC rf0)) w := zero_of (by kernel_rfl) w
theorem zero_node (w : World) : (zeroValue 47).run Try.prog w = .ok (.agg (ndC 0 fun _ => rf0)) w := zero_of (by kernel_rfl) w
theorem built_rref (a : Nat) (d : Vector Nat 32) : Try.prog.built 27 [(0, .int .u32 (a : Int)), (1, .agg (va 32 (iv .u8 (dF d))))] = some (rfC (a, d)) := by kernel_rfl
theorem built_node1 (l : Int) : Try.prog.built 47 [(0, .int .i64 l)] = some (ndC l fun _ => rf0) := by kernel_rfl
/-- items of an array compared, whatever they are -/
theorem run_items_any {P : Program} {w : World} {e : TypeId} (d c : Nat) (X Y : Nat → Value) (b : Nat → Bool) (xs ys : Array Value) :
    ∀ is : List Nat, (∀ i ∈ is, (part e xs (i * c)).run P w = .ok (X i) w ∧ (part e ys (i * c)).run P w = .ok (Y i) w ∧ (Op.equalIn d e (X i) (Y i)).run P w = .ok (b i) w) → (Op.eqItems d e c xs ys is).run P w = .ok (is.all b) w
  | [], _ => by simp [Op.eqItems]
  | i :: is, h => by
    obtain ⟨p1, p2, p3⟩ := h i (by simp)
    have ih := run_items_any (w := w) d c X Y b xs ys is fun j hj => h j (by simp [hj])
    simp only [Op.eqItems, Sem.run_bind, p1, p2, p3, Result.andThen_ok]
    cases hq : b i
    · simp only [Bool.not_false, if_true, Sem.run_pure, List.all_cons, hq, Bool.false_and]
    · simp only [Bool.not_true, Bool.false_eq_true, if_false, ih, List.all_cons, hq, Bool.true_and]
theorem part_agg (t n : Nat) (u : TypeDesc) (hu : Try.prog.underlying t = some u) (hd : u.isRow = true) (hs : (Try.prog.info? t).map (·.size) = some n) (cs ds : Array Value) (o : Nat) (he : cs.extract o (o + n) = ds) (w : World) : (part t cs o).run Try.prog w = .ok (.agg ds) w := by
  cases u <;> simp [TypeDesc.isRow] at hd <;> simp [part, isAgg, run_underlying hu, size_at _ _ hs, he]
/-- two references compared -/
theorem eq_ref (d : Nat) (a b : Rf) (w : World) : (Op.equalIn (d + 1 + 1 + 1) 31 (.agg (rfC a)) (.agg (rfC b))).run Try.prog w = .ok (decide (a = b)) w := eq_root d a.1 b.1 a.2 b.2 w
theorem part_sum32 (a : Nat) (d : Vector Nat 32) (w : World) : (part 25 (va 33 (rfF a d)) 1).run Try.prog w = .ok (dK d) w :=
  part_agg _ 32 _ Try.underlying25 rfl ndSize32 _ _ 1 (by rw [va_extract 33 1 32 _ (by decide), rf_sum]) w
theorem eq_rref (d : Nat) (a b : Rf) (w : World) : (Op.equalIn (d + 1 + 1 + 1) 27 (.agg (rfC a)) (.agg (rfC b))).run Try.prog w = .ok (decide (a = b)) w := by
  have h1 : (Op.equalIn (d + 1 + 1) 24 (.int .u32 (a.1 : Int)) (.int .u32 (b.1 : Int))).run Try.prog w = .ok ((a.1 : Int) == (b.1 : Int)) w := by simp [Op.equalIn, run_underlying Try.underlying24]
  have h2 := eq_digAt d 25 Try.underlying25 a.2 b.2 w
  have hd : decide (a = b) = (((a.1 : Int) == (b.1 : Int)) && decide (a.2 = b.2)) := by
    obtain ⟨a1, a2⟩ := a
    obtain ⟨b1, b2⟩ := b
    rw [Bool.eq_iff_iff]
    simp only [decide_eq_true_eq, Bool.and_eq_true, beq_iff_eq, Prod.mk.injEq]
    constructor
    · rintro ⟨h, k⟩
      exact ⟨by omega, k⟩
    · rintro ⟨h, k⟩
      exact ⟨by omega, k⟩
  rw [hd]
  have p1 : (part 24 (rfC a) 0).run Try.prog w = .ok (.int .u32 ((a.1 : Nat) : Int)) w := part_int _ _ Try.underlying24 _ _ _ (va_at (rfF a.1 a.2) (by decide)) w
  have q1 : (part 24 (rfC b) 0).run Try.prog w = .ok (.int .u32 ((b.1 : Nat) : Int)) w := part_int _ _ Try.underlying24 _ _ _ (va_at (rfF b.1 b.2) (by decide)) w
  have p2 : (part 25 (rfC a) 1).run Try.prog w = .ok (dK a.2) w := part_sum32 a.1 a.2 w
  have q2 : (part 25 (rfC b) 1).run Try.prog w = .ok (dK b.2) w := part_sum32 b.1 b.2 w
  generalize rfC a = cs at *
  generalize rfC b = ds at *
  have hu : Try.prog.underlying 27 = some (.struct (Try.prog.fieldsOf 27)) := by kernel_rfl
  have hp : Try.prog.stoodInHeld 27 = false := by kernel_rfl
  have hf : (Try.prog.fieldsOf 27).toList.map (fun f => (f.name == "_", f.type, f.offset)) = [(false, 24, 0), (false, 25, 1)] := by kernel_rfl
  exact run_eq_two hu hp hf p1 q1 p2 q2 h1 h2
/-- two nodes are the same -/
abbrev ndSame (l : Int) (K : Nat → Rf) (l' : Int) (K' : Nat → Rf) : Prop := l = l' ∧ ∀ i, i < 4 → K i = K' i
theorem eq_nodeAt (t tk tr : TypeId) (hk : Try.prog.underlying tk = some (.array 4 tr)) (ur : TypeDesc) (hur : Try.prog.underlying tr = some ur) (hrr : ur.isRow = true) (hsr : (Try.prog.info? tr).map (·.size) = some 33) (hcr : Try.prog.cellsOf tr = 33)
    (hsk : (Try.prog.info? tk).map (·.size) = some 132) (hu : Try.prog.underlying t = some (.struct (Try.prog.fieldsOf t))) (hp : Try.prog.stoodInHeld t = false)
    (hf : (Try.prog.fieldsOf t).toList.map (fun f => (f.name == "_", f.type, f.offset)) = [(false, 3, 0), (false, tk, 1)])
    (HR : ∀ (d : Nat) (a b : Rf) (w : World), (Op.equalIn (d + 1 + 1 + 1) tr (.agg (rfC a)) (.agg (rfC b))).run Try.prog w = .ok (decide (a = b)) w)
    (l l' : Int) (K K' : Nat → Rf) (w : World) : (Op.equalIn 10000 t (.agg (ndC l K)) (.agg (ndC l' K'))).run Try.prog w = .ok (decide (ndSame l K l' K')) w := by
  obtain ⟨ir, hir⟩ : ∃ i, Try.prog.info? tr = some i := by
    cases hq : Try.prog.info? tr with
    | none => simp [hq] at hsr
    | some i => exact ⟨i, rfl⟩
  have h1 : ∀ d, (Op.equalIn (d + 1) 3 (.int .i64 l) (.int .i64 l')).run Try.prog w = .ok (l == l') w := fun d => by simp [Op.equalIn, run_underlying Try.underlying3]
  have h2 : (Op.equalIn 9999 tk (.agg (kdC K)) (.agg (kdC K'))).run Try.prog w = .ok ((List.range 4).all fun i => decide (K i = K' i)) w := by
    rw [show (9999 : Nat) = 9998 + 1 from rfl, run_equalIn_array w 9998 (kdC K) (kdC K') hk hir, hcr]
    refine run_items_any 9998 33 (fun i => .agg (rfC (K i))) (fun i => .agg (rfC (K' i))) _ _ _ _ fun i hi => ?_
    have hi4 : i < 4 := by simpa using hi
    exact ⟨part_agg _ 33 _ hur hrr hsr _ _ _ (kd_extract K i hi4) w, part_agg _ 33 _ hur hrr hsr _ _ _ (kd_extract K' i hi4) w, HR 9995 _ _ w⟩
  have hd : decide (ndSame l K l' K') = ((l == l') && (List.range 4).all fun i => decide (K i = K' i)) := by
    rw [Bool.eq_iff_iff, decide_eq_true_eq, Bool.and_eq_true, List.all_eq_true, beq_iff_eq]
    simp only [List.mem_range, decide_eq_true_eq]
  rw [hd]
  have p1 : ∀ (l : Int) (K : Nat → Rf), (part 3 (ndC l K) 0).run Try.prog w = .ok (.int .i64 l) w := fun l K => part_int _ _ Try.underlying3 _ _ _ (va_at (ndF l K) (by decide)) w
  have uk : TypeDesc.isRow (.array 4 tr) = true := rfl
  have p2 : ∀ (l : Int) (K : Nat → Rf), (part tk (ndC l K) 1).run Try.prog w = .ok (.agg (kdC K)) w := fun l K => part_agg _ 132 _ hk uk hsk _ _ 1 (nd_extract l K) w
  exact run_eq_two hu hp hf (p1 l K) (p1 l' K') (p2 l K) (p2 l' K') (h1 9998) h2
theorem eq_node (l l' : Int) (K K' : Nat → Rf) (w : World) : (Op.equalIn 10000 47 (.agg (ndC l K)) (.agg (ndC l' K'))).run Try.prog w = .ok (decide (ndSame l K l' K')) w :=
  eq_nodeAt 47 45 31 Try.underlying45 _ Try.underlying31 rfl slSizeRef (by kernel_rfl) sizeKid (by kernel_rfl) (by kernel_rfl) (by kernel_rfl) eq_ref l l' K K' w
/-- texts one behind the other -/
theorem tbyte_append (s t : ByteArray) (j : Nat) : tbyte (s ++ t) j = if j < s.size then tbyte s j else tbyte t (j - s.size) := by
  have hs : s.data.toList.length = s.size := Array.length_toList
  have e : (s ++ t).data.toList = s.data.toList ++ t.data.toList := by
    rw [ByteArray.data_append, Array.toList_append]
  unfold tbyte
  rw [e, List.getD_eq_getElem?_getD]
  by_cases h : j < s.size
  · rw [if_pos h, List.getElem?_append_left (by omega), List.getD_eq_getElem?_getD]
  · rw [if_neg h, List.getElem?_append_right (by omega), List.getD_eq_getElem?_getD, hs]
theorem strN_append (f : Nat → Nat) (a b : Nat) (hf : ∀ j, j < a + b → f j < 256) : strN f a ++ strN (fun j => f (a + j)) b = strN f (a + b) := by
  refine text_ext (by rw [ByteArray.size_append, strN_size, strN_size, strN_size]) fun j hj => ?_
  rw [ByteArray.size_append, strN_size, strN_size] at hj
  rw [tbyte_append, strN_size, strN_at f (a + b) j hj (hf j hj)]
  by_cases h : j < a
  · rw [if_pos h, strN_at f a j h (hf j (by omega))]
  · rw [if_neg h]
    have e : a + (j - a) = j := by omega
    rw [strN_at _ b (j - a) (by omega) (by rw [e]; exact hf j hj), e]
/-- a reference's bytes -/
def encR (r : Rf) : Nat → Nat := fun j => if j < 4 then dig r.1 j else dF r.2 (j - 4)
/-- a digest of bytes -/
def okD (d : Vector Nat 32) : Prop := ∀ i, i < 32 → dF d i < 256
theorem encR_lt (r : Rf) (hr : okD r.2) (j : Nat) (hj : j < 36) : encR r j < 256 := by
  unfold encR
  split
  · exact dig_lt _ _
  · exact hr _ (by omega)
theorem okD_zero : okD (Vector.replicate 32 0) := fun i hi => by
  unfold dF
  simp [hi]
theorem okD_sum (f : Nat → Nat) (h : ∀ i, i < 32 → f i < 256) : okD (sumD f) := fun i hi => by
  rw [dF_sumD f i hi]
  exact h i hi
end Go.Proofs.Ytednfpponkaelaa

namespace Go.Nam
open Go.Lib

def lexN : List Nat → List Nat → Int
  | [], [] => 0
  | [], _ :: _ => -1
  | _ :: _, [] => 1
  | a :: x, b :: y => if a < b then -1 else if b < a then 1 else lexN x y

theorem lexN_cons (a b : Nat) (x y : List Nat) : lexN (a :: x) (b :: y) = if a < b then -1 else if b < a then 1 else lexN x y := rfl

theorem lexN_flip : ∀ x y : List Nat, lexN y x = - lexN x y
  | [], [] => rfl
  | [], _ :: _ => rfl
  | _ :: _, [] => rfl
  | a :: x, b :: y => by
    have ih := lexN_flip x y
    simp only [lexN]
    repeat' split
    all_goals first | omega | rfl

theorem lexN_zero : ∀ x y : List Nat, lexN x y = 0 ↔ x = y
  | [], [] => by simp [lexN]
  | [], _ :: _ => by simp [lexN]
  | _ :: _, [] => by simp [lexN]
  | a :: x, b :: y => by
    have ih := lexN_zero x y
    simp only [lexN, List.cons.injEq]
    by_cases h1 : a < b
    · rw [if_pos h1]; constructor
      · intro h; cases h
      · rintro ⟨rfl, _⟩; omega
    · rw [if_neg h1]
      by_cases h2 : b < a
      · rw [if_pos h2]; constructor
        · intro h; cases h
        · rintro ⟨rfl, _⟩; omega
      · rw [if_neg h2, ih]
        have : a = b := by omega
        simp [this]

theorem lexN_one : ∀ x y : List Nat, lexN x y = -1 ∨ lexN x y = 0 ∨ lexN x y = 1
  | [], [] => by simp [lexN]
  | [], _ :: _ => by simp [lexN]
  | _ :: _, [] => by simp [lexN]
  | a :: x, b :: y => by
    have ih := lexN_one x y
    simp only [lexN]
    repeat' split
    all_goals first | omega | exact ih

theorem lexN_trans : ∀ x y z : List Nat, lexN x y ≤ 0 → lexN y z ≤ 0 → lexN x z ≤ 0 ∧ (lexN x z = 0 → lexN x y = 0 ∧ lexN y z = 0)
  | [], [], z, h1, h2 => ⟨h2, fun h => ⟨rfl, h⟩⟩
  | [], _ :: _, [], h1, h2 => by simp [lexN] at h2
  | [], _ :: _, _ :: _, h1, h2 => by simp [lexN]
  | _ :: _, [], _, h1, h2 => by simp [lexN] at h1
  | _ :: _, _ :: _, [], h1, h2 => by simp [lexN] at h2
  | a :: x, b :: y, c :: z, h1, h2 => by
    have ih := lexN_trans x y z
    simp only [lexN] at h1 h2 ⊢
    repeat' split at h1
    all_goals repeat' split at h2
    all_goals repeat' split
    all_goals first | omega | (have := ih (by omega) (by omega); omega)

/-- The library's order of bytes is this one. -/
theorem cmp_lex : ∀ x y : List UInt8, compareBytes x y = lexN (x.map (·.toNat)) (y.map (·.toNat))
  | [], [] => rfl
  | [], _ :: _ => rfl
  | _ :: _, [] => rfl
  | a :: x, b :: y => by
    have ih := cmp_lex x y
    simp only [compareBytes, List.map_cons, lexN, ih, UInt8.lt_iff_toNat_lt]

end Go.Nam

namespace Go.Proofs.Ytednfpponkaelaa
open Go Go.Nam Go.Lib

/-- a digest's bytes as numbers -/
def dL (d : Vector Nat 32) : List Nat := (List.range 32).map (dF d)
def rk (r : Rf) : List Nat := r.1 :: dL r.2
def cmR (a b : Rf) : Int := lexN (rk a) (rk b)
theorem dL_len (d : Vector Nat 32) : (dL d).length = 32 := by simp [dL]
theorem dL_inj {a b : Vector Nat 32} (h : dL a = dL b) : a = b := dF_inj fun i hi => by
  have := congrArg (fun l => l[i]?) h
  simpa [dL, hi] using this
theorem rk_inj {a b : Rf} (h : rk a = rk b) : a = b := by
  unfold rk at h
  simp only [List.cons.injEq] at h
  obtain ⟨a1, a2⟩ := a
  obtain ⟨b1, b2⟩ := b
  simp only at h
  rw [h.1, dL_inj h.2]
theorem cmR_zero (a b : Rf) : cmR a b = 0 ↔ a = b := by
  unfold cmR
  rw [lexN_zero]
  exact ⟨rk_inj, fun h => by rw [h]⟩
theorem cmR_flip (a b : Rf) : cmR b a = - cmR a b := lexN_flip _ _
theorem cmR_self (a : Rf) : cmR a a = 0 := (cmR_zero a a).2 rfl
theorem cmR_one (a b : Rf) : cmR a b = -1 ∨ cmR a b = 0 ∨ cmR a b = 1 := lexN_one _ _
theorem cmR_trans {a b c : Rf} (h1 : cmR a b < 0) (h2 : cmR b c < 0) : cmR a c < 0 := by
  have h := lexN_trans (rk a) (rk b) (rk c) (by unfold cmR at h1; omega) (by unfold cmR at h2; omega)
  unfold cmR at *
  rcases Int.lt_or_eq_of_le h.1 with h3 | h3
  · exact h3
  · have := (h.2 h3).1; omega
theorem cmR_le {a b c : Rf} (h1 : cmR a b ≤ 0) (h2 : cmR b c ≤ 0) : cmR a c ≤ 0 := (lexN_trans (rk a) (rk b) (rk c) h1 h2).1
/-- the two parts: the numbers first, then the digests -/
def orR (x y : Int) : Int := if x ≠ 0 then x else y
theorem cmR_parts (a b : Rf) : orR (compareInt (a.1 : Int) (b.1 : Int)) (lexN (dL a.2) (dL b.2)) = cmR a b := by
  unfold cmR rk orR compareInt
  rw [lexN_cons]
  by_cases h1 : a.1 < b.1
  · rw [if_pos (show (a.1 : Int) < (b.1 : Int) by omega), if_pos h1]; rfl
  · rw [if_neg (show ¬ (a.1 : Int) < (b.1 : Int) by omega), if_neg h1]
    by_cases h2 : b.1 < a.1
    · rw [if_pos (show (a.1 : Int) > (b.1 : Int) by omega), if_pos h2]; rfl
    · rw [if_neg (show ¬ (a.1 : Int) > (b.1 : Int) by omega), if_neg h2]; rfl
/-- of one length, alike up to a place: that place decides -/
theorem lexN_drop : ∀ (i : Nat) (x y : List Nat), x.length = y.length → (∀ j, j < i → x.getD j 0 = y.getD j 0) → i ≤ x.length → lexN x y = lexN (x.drop i) (y.drop i)
  | 0, x, y, _, _, _ => rfl
  | i + 1, [], y, _, _, h => by simp at h
  | i + 1, a :: x, [], h, _, _ => by simp at h
  | i + 1, a :: x, b :: y, h, hj, hi => by
    have h0 := hj 0 (by omega)
    simp at h0
    subst h0
    rw [lexN_cons, if_neg (by omega), if_neg (by omega)]
    exact lexN_drop i x y (by simpa using h) (fun j hj' => by have := hj (j + 1) (by omega); simpa using this) (by simp at hi; omega)
theorem dL_at (d : Vector Nat 32) (i : Nat) (hi : i < 32) : (dL d).getD i 0 = dF d i := by
  simp [dL, hi, List.getD]
theorem dL_drop (d : Vector Nat 32) (i : Nat) (hi : i < 32) : (dL d).drop i = dF d i :: (dL d).drop (i + 1) := by
  have hl : i < (dL d).length := by rw [dL_len]; exact hi
  rw [List.drop_eq_getElem_cons hl]
  congr 1
  have := dL_at d i hi
  rw [List.getD_eq_getElem?_getD, List.getElem?_eq_getElem hl] at this
  simpa using this
theorem lexD_at (a b : Vector Nat 32) (i : Nat) (hi : i < 32) (h : ∀ j, j < i → dF a j = dF b j) : lexN (dL a) (dL b) = if dF a i < dF b i then -1 else if dF b i < dF a i then 1 else lexN ((dL a).drop (i + 1)) ((dL b).drop (i + 1)) := by
  rw [lexN_drop i (dL a) (dL b) (by simp [dL_len]) (fun j hj => by rw [dL_at a j (by omega), dL_at b j (by omega), h j hj]) (by rw [dL_len]; omega), dL_drop a i hi, dL_drop b i hi, lexN_cons]
theorem lexD_eq (a b : Vector Nat 32) (h : ∀ j, j < 32 → dF a j = dF b j) : lexN (dL a) (dL b) = 0 := by
  rw [dF_inj h]
  exact (lexN_zero _ _).2 rfl
/-- rising lists -/
def Up (l : List Rf) : Prop := l.Pairwise fun a b => cmR a b < 0
theorem Up.nodup {l : List Rf} (h : Up l) : l.Nodup := h.imp fun {a b} h e => by subst e; rw [cmR_self] at h; omega
theorem up_eq {l m : List Rf} (hl : Up l) (hm : Up m) (h : ∀ x, x ∈ l ↔ x ∈ m) : l = m := by
  refine List.Perm.eq_of_pairwise (le := fun a b => cmR a b < 0) (fun a b _ _ h1 h2 => ?_) hl hm ((List.perm_ext_iff_of_nodup hl.nodup hm.nodup).2 h)
  rw [cmR_flip] at h2
  omega
/-- at what place a reference comes into a rising list -/
def plR (l : List Rf) (x : Rf) : Nat := (l.takeWhile fun y => decide (cmR y x < 0)).length
def inR (l : List Rf) (x : Rf) : List Rf := if l[plR l x]? = some x then l else l.take (plR l x) ++ x :: l.drop (plR l x)
theorem plR_le (l : List Rf) (x : Rf) : plR l x ≤ l.length := by
  unfold plR
  exact (List.takeWhile_prefix _).length_le
theorem plR_less (l : List Rf) (x : Rf) : ∀ i, i < plR l x → ∀ y, l[i]? = some y → cmR y x < 0 := by
  induction l with
  | nil => intro i hi; simp [plR] at hi
  | cons a l ih =>
    intro i hi y hy
    unfold plR at hi
    rw [List.takeWhile_cons] at hi
    by_cases h : cmR a x < 0
    · simp only [h, decide_true, if_true, List.length_cons] at hi
      match i with
      | 0 => simp at hy; subst hy; exact h
      | i + 1 => exact ih i (by unfold plR; omega) y (by simpa using hy)
    · simp [h] at hi
theorem plR_not (l : List Rf) (x y : Rf) (h : l[plR l x]? = some y) : ¬ cmR y x < 0 := by
  induction l with
  | nil => simp at h
  | cons a l ih =>
    unfold plR at h ih
    rw [List.takeWhile_cons] at h
    by_cases h' : cmR a x < 0
    · simp only [h', decide_true, if_true, List.length_cons, List.getElem?_cons_succ] at h
      exact ih h
    · simp only [h', decide_false, Bool.false_eq_true, if_false, List.length_nil, List.getElem?_cons_zero, Option.some.injEq] at h
      subst h; exact h'
/-- how the place is found: one step on -/
theorem plR_at (l : List Rf) (x : Rf) (i : Nat) (hi : i ≤ l.length) (h1 : ∀ j, j < i → ∀ y, l[j]? = some y → cmR y x < 0) (h2 : ∀ y, l[i]? = some y → ¬ cmR y x < 0) : plR l x = i := by
  rcases Nat.lt_trichotomy (plR l x) i with h | h | h
  · obtain ⟨y, hy⟩ : ∃ y, l[plR l x]? = some y := ⟨_, List.getElem?_eq_getElem (by omega)⟩
    exact absurd (h1 _ h y hy) (plR_not l x y hy)
  · exact h
  · have := plR_le l x
    obtain ⟨y, hy⟩ : ∃ y, l[i]? = some y := ⟨_, List.getElem?_eq_getElem (by omega)⟩
    exact absurd (plR_less l x i h y hy) (h2 y hy)
theorem mem_inR (l : List Rf) (x y : Rf) : y ∈ inR l x ↔ y ∈ l ∨ y = x := by
  unfold inR
  split
  · rename_i h
    exact ⟨Or.inl, fun h' => h'.elim id fun e => by subst e; exact List.mem_of_getElem? h⟩
  · rw [List.mem_append, List.mem_cons]
    constructor
    · rintro (h | h | h)
      · exact Or.inl (List.mem_of_mem_take h)
      · exact Or.inr h
      · exact Or.inl (List.mem_of_mem_drop h)
    · rintro (h | h)
      · rw [← List.take_append_drop (plR l x) l, List.mem_append] at h
        exact h.elim Or.inl fun h => Or.inr (Or.inr h)
      · exact Or.inr (Or.inl h)
theorem up_inR {l : List Rf} (h : Up l) (x : Rf) : Up (inR l x) := by
  unfold inR
  split
  · exact h
  · rename_i hn
    have ht : ∀ y ∈ l.take (plR l x), cmR y x < 0 := fun y hy => by
      obtain ⟨i, hi, rfl⟩ := List.mem_iff_getElem.1 hy
      have hlt : i < plR l x := by simp at hi; omega
      refine plR_less l x i hlt _ ?_
      rw [List.getElem_take, List.getElem?_eq_getElem]
    have hd : ∀ y ∈ l.drop (plR l x), cmR x y < 0 := fun y hy => by
      have hu : Up (l.drop (plR l x)) := List.Pairwise.sublist (List.drop_sublist _ _) h
      cases hdl : l.drop (plR l x) with
      | nil => rw [hdl] at hy; simp at hy
      | cons z m =>
        have hz : l[plR l x]? = some z := by
          have := congrArg (fun q => q[0]?) hdl
          simpa using this
        have h1 := plR_not l x z hz
        have h2 : z ≠ x := fun e => hn (e ▸ hz)
        have h3 : cmR x z < 0 := by
          have := cmR_one z x
          have h4 : cmR z x ≠ 0 := fun e => h2 ((cmR_zero z x).1 e)
          rw [cmR_flip]; omega
        rw [hdl] at hy hu
        rcases List.mem_cons.1 hy with rfl | hy
        · exact h3
        · exact cmR_trans h3 ((List.pairwise_cons.1 hu).1 y hy)
    refine List.pairwise_append.2 ⟨List.Pairwise.sublist (List.take_sublist _ _) h, List.pairwise_cons.2 ⟨hd, List.Pairwise.sublist (List.drop_sublist _ _) h⟩, ?_⟩
    intro a ha b hb
    rcases List.mem_cons.1 hb with rfl | hb
    · exact ht a ha
    · exact cmR_trans (ht a ha) (hd b hb)
/-- each once, rising -/
def unR (l : List Rf) : List Rf := l.foldl inR []
theorem unR_snoc (l : List Rf) (x : Rf) : unR (l ++ [x]) = inR (unR l) x := by simp [unR]
theorem unR_facts (l : List Rf) : Up (unR l) ∧ ∀ x, x ∈ unR l ↔ x ∈ l := by
  have : ∀ (l a : List Rf), Up a → Up (l.foldl inR a) ∧ ∀ x, x ∈ l.foldl inR a ↔ x ∈ a ∨ x ∈ l := by
    intro l
    induction l with
    | nil => intro a h; exact ⟨h, fun x => by simp⟩
    | cons y l ih =>
      intro a h
      obtain ⟨h1, h2⟩ := ih (inR a y) (up_inR h y)
      refine ⟨h1, fun x => ?_⟩
      show x ∈ l.foldl inR (inR a y) ↔ _
      rw [h2 x, mem_inR, List.mem_cons, or_assoc]
  obtain ⟨h1, h2⟩ := this l [] List.Pairwise.nil
  exact ⟨h1, fun x => by rw [unR, h2 x]; simp⟩
theorem unR_is {l m : List Rf} (h : Up m) (hm : ∀ x, x ∈ m ↔ x ∈ l) : m = unR l := up_eq h (unR_facts l).1 fun x => by rw [hm x, (unR_facts l).2 x]
theorem inR_len (l : List Rf) (x : Rf) : (inR l x).length ≤ l.length + 1 := by
  unfold inR
  split
  · omega
  · simp; omega
theorem unR_len (l : List Rf) : (unR l).length ≤ l.length := by
  have : ∀ (l a : List Rf), (l.foldl inR a).length ≤ a.length + l.length := by
    intro l
    induction l with
    | nil => intro a; simp
    | cons y l ih => intro a; have h1 := ih (inR a y); have h2 := inR_len a y; simp only [List.foldl_cons, List.length_cons]; omega
  have h := this l []
  simpa [unR] using h
end Go.Proofs.Ytednfpponkaelaa

namespace Go.Proofs.Ytednfpponkaelaa
open Go Go.RowKit Go.Nam
set_option linter.unusedVariables false
set_option linter.unusedSimpArgs false
/-- the cells of references -/
def rfR : List Rf → List Value
  | [] => []
  | x :: l => (List.range 33).map (rfF x.1 x.2) ++ rfR l
theorem rfR_len : ∀ l : List Rf, (rfR l).length = l.length * 33
  | [] => rfl
  | x :: l => by simp [rfR, rfR_len l]; omega
theorem rfR_app : ∀ l m : List Rf, rfR (l ++ m) = rfR l ++ rfR m
  | [], m => rfl
  | x :: l, m => by simp [rfR, rfR_app l m]
theorem rfR_mem : ∀ (l : List Rf) (u : Value), u ∈ rfR l → u.oneCell' = true
  | [], u, h => by simp [rfR] at h
  | x :: l, u, h => by
    simp only [rfR, List.mem_append] at h
    rcases h with h | h
    · obtain ⟨i, _, rfl⟩ := List.mem_map.1 h
      exact rfF_one _ _ _
    · exact rfR_mem l u h
theorem rfR_at : ∀ (l : List Rf) (i : Nat) (x : Rf), l[i]? = some x → ∀ j, j < 33 → (rfR l)[i * 33 + j]? = some (rfF x.1 x.2 j)
  | [], i, x, h, j, hj => by simp at h
  | y :: l, 0, x, h, j, hj => by
    simp at h; subst h
    rw [rfR, List.getElem?_append_left (by simp; omega)]
    simp [hj]
  | y :: l, i + 1, x, h, j, hj => by
    have ih := rfR_at l i x (by simpa using h) j hj
    rw [rfR, List.getElem?_append_right (by simp; omega)]
    rw [← ih]
    congr 1
    simp
    omega
theorem rfR_take : ∀ (l : List Rf) (k : Nat), rfR (l.take k) = (rfR l).take (k * 33)
  | [], k => by simp [rfR]
  | x :: l, 0 => by simp [rfR]
  | x :: l, k + 1 => by
    rw [List.take_succ_cons, rfR, rfR, rfR_take l k, show (k + 1) * 33 = ((List.range 33).map (rfF x.1 x.2)).length + k * 33 by rw [List.length_map, List.length_range]; omega, List.take_length_add_append]
theorem rfR_drop : ∀ (l : List Rf) (k : Nat), rfR (l.drop k) = (rfR l).drop (k * 33)
  | [], k => by simp [rfR]
  | x :: l, 0 => by simp
  | x :: l, k + 1 => by
    rw [List.drop_succ_cons, rfR, rfR_drop l k, show (k + 1) * 33 = ((List.range 33).map (rfF x.1 x.2)).length + k * 33 by rw [List.length_map, List.length_range]; omega, List.drop_length_add_append]
/-- references in the memory from a place on -/
def IsF (w : World) (b o : Nat) (M : List Rf) : Prop := ∀ j u, (rfR M)[j]? = some u → w.cell? ⟨b, o + j, none⟩ = some u
theorem IsF.take {w : World} {b o : Nat} {M : List Rf} (h : IsF w b o M) (k : Nat) : IsF w b o (M.take k) := fun j u hu => by
  rw [rfR_take, List.getElem?_take] at hu
  split at hu
  · exact h j u hu
  · cases hu
theorem IsF.drop {w : World} {b o : Nat} {M : List Rf} (h : IsF w b o M) (k : Nat) : IsF w b (o + k * 33) (M.drop k) := fun j u hu => by
  rw [rfR_drop, List.getElem?_drop] at hu
  rw [Nat.add_assoc]
  exact h _ u hu
theorem IsF.below {w w' : World} {b o B : Nat} {M : List Rf} (h : IsF w b o M) (hb : Below B w w') (hB : b < B) : IsF w' b o M := fun j u hu => (hb.cell (p := ⟨b, o + j, none⟩) hB).trans (h j u hu)
theorem IsF.range {w : World} {b o : Nat} {M : List Rf} (h : IsF w b o M) {i : Nat} {x : Rf} (hx : M[i]? = some x) : w.rangeAt b (o + i * 33) ((List.range 33).map (rfF x.1 x.2)) := fun j v hv => by
  have hj : j < 33 := by
    have := (List.getElem?_eq_some_iff.1 hv).1
    simpa using this
  rw [Nat.add_assoc]
  refine h (i * 33 + j) v ?_
  rw [rfR_at M i x hx j hj, ← hv]
  simp [hj]
theorem own_isF {w : World} {B e n cap g : Nat} {M : List Rf} (h : w.ownsRow B e 33 (.slice (some ⟨g, 0, none⟩) n cap) n (rfR M)) : IsF w g 0 M := fun j u hu => by
  have h1 := h.1
  have h2 := (List.getElem?_eq_some_iff.1 hu).1
  rw [Nat.zero_add, h.cellAt j (by omega)]
  exact hu
/-- one reference, newly laid -/
theorem isF_new {w : World} {b t : Nat} {x : Rf} (h : Blk w b t (rfC x)) : IsF w b 0 [x] := fun j u hu => by
  have hj : j < 33 := by
    have := (List.getElem?_eq_some_iff.1 hu).1
    rw [rfR_len] at this
    simpa using this
  rw [Nat.zero_add, h.cell, rfC, va_at _ hj, ← hu]
  simp [rfR, hj]
/-- append(own, references...) -/
theorem wpList_append_rfs {P : Program} {ops : Array Oper} {rest : List Oper} {o : Oper} {a : Act} {w : World} {Q : Exit → Act → World → Prop} (hgd : o.guard = none) (s x : Operand) (t : TypeId)
    (ho : o.op = .call { callee := .builtin .append, args := #[s, x], argTypes := #[t, t] }) (B : Nat) (e : TypeId) (i : TypeInfo) (z : Value) (ht : P.underlying t = some (.slice e)) (hi : P.info? e = some i) (hz : i.zero = some z) (hsize : i.size = 33) (hby : i.bytes = 36) (hzs : z.cells.size = 33)
    (v : Value) (A : List Rf) (k : Nat) (hk : k = A.length) (hs : a.eval s = v) (hown : w.ownsRow B e 33 v k (rfR A)) (b of m c : Nat) (M : List Rf) (hm : m = M.length) (hx : a.eval x = .slice (some ⟨b, of, none⟩) m c) (hA : IsF w b of M) (hn : (A.length + M.length) * 36 ≤ 140737488355328) (hbase : B ≤ w.heap.size)
    (h : ∀ v' w', w'.ownsRow B e 33 v' (k + m) (rfR (A ++ M)) → Below B w w' → w.grownBy w' v.ownBlock → wpList P ops Q rest (a.put o.dst v') w') : wpList P ops Q (o :: rest) a w := by
  have hv := hown.lt
  refine wpList_append_own _ hgd s x t ho B e i z 33 36 ht hi hz hsize hby hzs (by decide) v k (rfR A) hs hown ⟨b, of, none⟩ m c (rfR M) hx (by rw [rfR_len, hm]) (fun j u hu => ?_) (rfR_mem M) (by unfold maxLen; omega) (by omega) hbase fun v' w' h1 h2 _ => ?_
  · rw [Addr.add_mid]; exact hA j u hu
  · rw [← rfR_app] at h1
    exact h v' w' h1 ((Below.refl _ _).grown h2 hbase (fun k hk => (hv k hk).1)) h2
theorem infoRf : (Try.prog.info? 31).map (fun i => (i.zero, i.size, i.bytes)) = some (some (.agg (rfC rf0)), 33, 36) := by kernel_rfl
theorem infoQf : (Try.prog.info? 27).map (fun i => (i.zero, i.size, i.bytes)) = some (some (.agg (rfC rf0)), 33, 36) := by kernel_rfl
theorem rf0_cells : (Value.agg (rfC rf0)).cells.size = 33 := by kernel_rfl
end Go.Proofs.Ytednfpponkaelaa

namespace Go.Proofs.Ytednfpponkaelaa
open Go Go.RowKit

section
variable {P : Program} {ops : Array Oper} {Q : Exit → Act → World → Prop} {md : Region.Mode} {Wl : List Nat} {S : World → Prop}

theorem takeS_gen {i fuel : Nat} {o : Oper} {v : Value} {listed : Array Bool} {a : Act} {w : World} (hs : Region.noSelect ops = true) (hi : ops[i]? = some o) (hr : (Region.ready md ops listed).contains i = true)
    (hf : Region.free md ops listed i = true) (hWi : Wl.contains i = false) (hwait : waitW md ops listed i Wl (waitArr md ops listed i) = true) (hy : YieldsIf P ops S o v a) (hS : S w)
    (hK : wpAnyW P md ops (Strict Q) S (Wl.contains ·) fuel (listed.setIfInBounds i true) (a.put o.dst v) w) :
    wpAnyW P md ops (Strict Q) S (Wl.contains ·) (fuel + 1) listed a w := by
  generalize hwt : waitArr md ops listed i = arr at hwait
  unfold waitW at hwait
  rw [List.all_eq_true] at hwait
  have hall : ∀ j oj, ops[j]? = some oj → (if arr.getD j false then (j == i || oj.after.any fun e => Region.binds md e && arr.getD e.on false && decide (e.on < ops.size)) && !listed.getD j true else !Wl.contains j) = true := fun j oj hj => by
    have h1 := hwait j (List.mem_range.2 (Array.getElem?_eq_some_iff.1 hj).1)
    rw [hj] at h1; exact h1
  have hin : ∀ j, decide (j < ops.size) = true → ∃ oj, ops[j]? = some oj := fun j hj => ⟨_, Array.getElem?_eq_getElem (of_decide_eq_true hj)⟩
  refine wpAnyW_take hi (Region.noSelect_spec hs) (fun j => arr.getD j false && decide (j < ops.size)) (v := v) (strict_frame _ _) ?_ ?_ hWi fuel listed a w (Region.free_spec hi hf) ?_ (by simpa using hr) hy hS hK
  · intro j oj hj hw hne
    simp only [Bool.and_eq_true] at hw
    have h1 := hall j oj hj
    rw [if_pos hw.1] at h1
    simp only [Bool.and_eq_true, Bool.or_eq_true, beq_iff_eq, hne, false_or] at h1
    obtain ⟨e, he, hb⟩ := Array.any_eq_true'.1 h1.1
    simp only [Bool.and_eq_true] at hb
    exact ⟨e, he, hb.1.1, by simp only [Bool.and_eq_true]; exact ⟨hb.1.2, hb.2⟩⟩
  · intro j oj hj hw
    have hlt : decide (j < ops.size) = true := decide_eq_true (Array.getElem?_eq_some_iff.1 hj).1
    have h1 := hall j oj hj
    cases hq : arr.getD j false with
    | true => rw [hlt]; rfl
    | false => rw [if_neg (by rw [hq]; decide), hw] at h1; cases h1
  · intro j hw
    simp only [Bool.and_eq_true] at hw
    obtain ⟨oj, hj⟩ := hin j hw.2
    have h1 := hall j oj hj
    rw [if_pos hw.1] at h1
    simp only [Bool.and_eq_true, Bool.not_eq_true'] at h1
    exact h1.2

theorem forceS_step {i fuel : Nat} {listed : Array Bool} {a : Act} {w : World} (hb : forceW md ops listed i = true)
    (h : wpOp P ops (Strict Q) i (fun a' w' => (Wl.contains i = false → S w') ∧ wpAnyW P md ops (Strict Q) S (Wl.contains ·) fuel (listed.setIfInBounds i true) a' w') a w) :
    wpAnyW P md ops (Strict Q) S (Wl.contains ·) (fuel + 1) listed a w := by
  unfold forceW at hb
  simp only [Bool.and_eq_true, beq_iff_eq] at hb
  refine ⟨fun h0 => absurd (hb.1.symm.trans h0) (by simp), ?_⟩
  rw [hb.1]
  intro j hj
  have : j = i := by simpa using hj
  subst this; exact h

theorem takeS_step {i fuel : Nat} {listed : Array Bool} {a : Act} {w : World} (hs : Region.noSelect ops = true) (hb : takeW md ops listed Wl [] i = true) (hS : S w)
    (h : wpOp P ops (Strict Q) i (fun a' w' => S w' → wpAnyW P md ops (Strict Q) S (Wl.contains ·) fuel (listed.setIfInBounds i true) a' w') a w) :
    wpAnyW P md ops (Strict Q) S (Wl.contains ·) (fuel + 1) listed a w := by
  unfold takeW at hb
  cases hi : ops[i]? with
  | none => rw [hi] at hb; cases hb
  | some o =>
    rw [hi] at hb
    simp only [Bool.and_eq_true, Bool.or_eq_true, Bool.not_eq_true'] at hb
    obtain ⟨⟨⟨⟨hr, hf⟩, hWi⟩, hk⟩, hwait⟩ := hb
    have key : ∃ v, wpAnyW P md ops (Strict Q) S (Wl.contains ·) fuel (listed.setIfInBounds i true) (a.put o.dst v) w ∧ YieldsIf P ops S o v a := by
      unfold wpOp at h
      simp only [hi] at h
      by_cases hw : Region.wanted o (yielded ops a.tmps) = true
      · simp only [hw, if_true] at h
        rcases h with h | ⟨_, h⟩
        · unfold Oper.wp at h
          have hrun : ∃ v, (execOp a.eval o).run P w = .ok (.value v) w ∧ ∀ w', S w' → (execOp a.eval o).run P w' = .ok (.value v) w' := by
            cases hsr : (execOp a.eval o).run P w with
            | ok n w1 =>
              rcases hk with hk | hk
              · obtain ⟨hp, hv⟩ := kindV_run (P := P) hk a.eval
                obtain ⟨v, rfl⟩ := hv _ _ _ hsr
                obtain ⟨rfl, h2⟩ := hp _ _ _ hsr
                exact ⟨v, rfl, fun w' _ => h2 w'⟩
              · obtain ⟨t, x, hop, hx⟩ := lowLoad_run hk
                cases hx
            | halt y w1 =>
              rw [hsr] at h
              cases y <;> simp only [Oper.upon, Strict] at h <;> first | exact absurd h.1 (by intro e; cases e) | exact h.elim
          obtain ⟨v, h1, h2⟩ := hrun
          rw [h1, Oper.upon_value] at h
          exact ⟨v, h hS, .inl ⟨hw, h2⟩⟩
        · exact absurd h Strict.noOut
      · rw [Bool.not_eq_true] at hw
        simp only [hw, Bool.false_eq_true, if_false] at h
        exact ⟨undef, h hS, .inr ⟨hw, rfl⟩⟩
    obtain ⟨v, hK, hy⟩ := key
    exact takeS_gen hs hi hr hf hWi hwait hy hS hK

theorem takesS_step (hs : Region.noSelect ops = true) (more : List Nat) (fuel : Nat) (Q' : Exit → Act → World → Prop) :
    ∀ (ts : List Nat) (listed l2 : Array Bool) (a : Act) (w : World), takesB md ops Wl [] ts listed = some l2 →
      (∀ a' w', S w' → wpList P ops (Strict Q') (more.filterMap fun i => ops[i]?) a' w' → wpAnyW P md ops (Strict Q) S (Wl.contains ·) fuel l2 a' w') →
      S w → wpList P ops (Strict Q') ((ts ++ more).filterMap fun i => ops[i]?) a w →
      wpAnyW P md ops (Strict Q) S (Wl.contains ·) (ts.length + fuel) listed a w := by
  intro ts
  induction ts with
  | nil =>
    intro listed l2 a w hb hn hS h
    simp only [takesB, Option.some.injEq] at hb
    subst hb
    rw [List.length_nil, Nat.zero_add]
    exact hn a w hS h
  | cons i rest ih =>
    intro listed l2 a w hb hn hS h
    unfold takesB at hb
    split at hb
    · rename_i hc
      have hlen : (i :: rest).length + fuel = (rest.length + fuel) + 1 := by simp only [List.length_cons]; omega
      rw [hlen]
      obtain ⟨o, ho⟩ := has_op hc
      refine takeS_step hs hc hS (wpOp_mono (fun a' w' h' h2 => ?_) (wpOp_strict (wpList_one ho h)))
      exact ih _ l2 a' w' hb hn h2 h'
    · cases hb

theorem tailS_step : ∀ (ts : List Nat) (listed : Array Bool) (a : Act) (w : World), tailB md ops Wl ts listed = true → wpList P ops (Strict Q) (ts.filterMap fun i => ops[i]?) a w →
    wpAnyW P md ops (Strict Q) S (Wl.contains ·) ts.length listed a w
  | [], listed, a, w, hb, h => ⟨by simpa [tailB] using hb, h⟩
  | i :: rest, listed, a, w, hb, h => by
    simp only [tailB, Bool.and_eq_true] at hb
    obtain ⟨o, ho⟩ := has_op' hb.1.1
    refine forceS_step hb.1.1 (wpOp_mono (fun a' w' h' => ?_) (wpList_one ho h))
    exact ⟨fun e => (by rw [hb.1.2] at e; cases e), tailS_step rest _ a' w' hb.2 h'⟩

theorem partsS_step (hs : Region.noSelect ops = true) (takes tail : List Nat) :
    ∀ (ps : List (List Nat × Nat × Bool)) (listed : Array Bool) (a : Act) (w : World), partsB md ops Wl [] ps takes tail listed = true → S w →
      wpPartsI P ops Q S ps (takes ++ tail) a w → wpAnyW P md ops (Strict Q) S (Wl.contains ·) (lenOf ps (takes.length + tail.length)) listed a w
  | [], listed, a, w, hb, hS, h => by
    unfold partsB at hb
    split at hb
    · rename_i l2 hl2
      exact takesS_step hs tail tail.length Q takes listed l2 a w hl2 (fun a' w' _ h' => tailS_step tail l2 a' w' hb h') hS h
    · cases hb
  | (ts, i, false) :: rest, listed, a, w, hb, hS, h => by
    unfold partsB at hb
    split at hb
    · rename_i l2 hl2
      simp only [Bool.and_eq_true, Bool.not_eq_true', Bool.false_eq_true, if_false] at hb
      refine takesS_step hs [i] _ _ ts listed l2 a w hl2 (fun a' w' _ h' => ?_) hS h
      obtain ⟨o, ho⟩ := has_op' hb.1.1
      rw [Nat.add_comm 1]
      refine forceS_step hb.1.1 (wpOp_mono (fun a2 w2 h2 => ?_) (wpOp_strict (wpList_one ho h')))
      have h3 := h2.2
      exact ⟨fun _ => h3.1, partsS_step hs takes tail rest _ a2 w2 hb.2 h3.1 h3.2⟩
    · cases hb
  | (ts, i, true) :: rest, listed, a, w, hb, hS, h => by
    unfold partsB at hb
    split at hb
    · rename_i l2 hl2
      simp only [Bool.and_eq_true, if_true] at hb
      refine takesS_step hs [] _ _ ts listed l2 a w hl2 (fun a' w' hS' h' => ?_) hS h
      obtain ⟨-, o, v, ho, hy, hn⟩ := h'
      have hc := hb.1
      unfold yieldW at hc
      rw [ho] at hc
      simp only [Bool.and_eq_true, Bool.not_eq_true'] at hc
      rw [Nat.add_comm 1]
      exact takeS_gen hs ho hc.1.1.1 hc.1.1.2 hc.1.2 hc.2 hy hS' (partsS_step hs takes tail rest _ _ w' hb.2 hS' hn)
    · cases hb

/-- THE LAW. -/
theorem wp_region_partsS {id : Nat} {a : Act} {w : World} (S : World → Prop) (ps : List (List Nat × Nat × Bool)) (takes tail : List Nat) (hm : P.follows .mixedOrders = true) (hB : wholeB ops tail [] ps takes tail = true)
    (hS : S w.drew) (h : wpPartsI P ops Q S ps (takes ++ tail) a w.drew) : (Code.region id ops true).wp P Q a w := by
  unfold wholeB at hB
  simp only [Bool.and_eq_true, beq_iff_eq] at hB
  refine Code.wp_mono Strict.imp (wp_region_any hm ?_)
  rw [← hB.1.1.1]
  exact wpAny_of_W _ _ _ _ (partsS_step hB.1.1.2 takes tail ps _ a _ (by rw [hB.1.1.1]; exact hB.2) hS h)
end
end Go.Proofs.Ytednfpponkaelaa
