/- A region that draws its order, by a plan: operations that are taken ahead, operations that are shown to yield, operations that are forced, and forks where two are ready. No program in it. -/
import Derived.Test.YtednfpponkaelaaRows
import Derived.WalkKit
import Derived.ProofKit
import Derived.OpenShut
import Derived.Carry
import Derived.Deep.Slices
import Derived.Lib.SmallJoins
import Derived.SizedLaws
import Derived.Test.YtednfpponkaelaaHBlkOpen
import Derived.Test.YtednfpponkaelaaHSegsS
import Derived.Deep.MidRow
import Derived.SliceStrings
import Derived.ChangeArms
import Derived.Laws.AppendOwnNone
import Derived.Test.YtednfpponkaelaaHDigRow
import Derived.Maps.RangeWalk
import Derived.Maps.Own
import Derived.Handy
import Derived.Shelf.SlSortCmp.NoneTotal
import Derived.Shelf.SlGeneric
import Derived.Test.YtednfpponkaelaaProg

namespace Go.Proofs.Ytednfpponkaelaa
open Go.ChangeShapes Go.WideShapes Go.ChangeAt Go.RowKit Go.Joins
set_option linter.unusedVariables false
set_option linter.unusedSimpArgs false

theorem nd_take_one {l : List Value} {o : Nat} {v : Value} (h : (l.drop o).take 1 = [v]) : l[o]? = some v := by
  have h2 : (l.drop o).head? = some v := by
    cases hd : l.drop o with
    | nil => rw [hd] at h; simp at h
    | cons a t => rw [hd] at h; simp at h; rw [h]; rfl
  rw [List.head?_drop] at h2
  exact h2
set_option maxRecDepth 100000 in
theorem open_ref_cells {H : Type} {enc : TypeId × Value → H} {W : World} {fuel : Nat} {l : List Value} {x : DataW H × List MemPlace} (hl : l.length = 33)
    (hf : DataW.trod enc Try.prog W 0 (fun _ => true) true fuel 31 l = some x) :
    ∃ r : Rf, l = (rfC r).toList ∧ r.1 < 4294967296 ∧ okD r.2 := by
  have hc4 : Try.prog.cellsOf 24 = 1 := by kernel_rfl
  have hc1 : Try.prog.cellsOf 5 = 1 := by kernel_rfl
  have hcs : Try.prog.cellsOf 29 = 32 := by kernel_rfl
  obtain ⟨zs, k', hk', hzy, _, hzl, hgs⟩ := DataW.trod_struct Try.underlying31 hf
  match zs, hzl with
  | [z0, z1], _ =>
    have q0 : DataW.trod enc Try.prog W 0 (fun _ => true) true k' 24 ((l.drop 0).take (Try.prog.cellsOf 24)) = some z0 := hgs 0 _ rfl
    have q1 : DataW.trod enc Try.prog W 0 (fun _ => true) true k' 29 ((l.drop 1).take (Try.prog.cellsOf 29)) = some z1 := hgs 1 _ rfl
    rw [hc4] at q0
    rw [hcs] at q1
    obtain ⟨a, e1, _, w1⟩ := DataW.trod_int Try.underlying24 q0
    have hby := trod_bytes Try.underlying29 Try.underlying5 hc1 q1
    have b1 := bounds_u32 w1
    have l1 : l[0]? = some (.int .u32 a) := nd_take_one e1
    have l2 : ∀ i, i < 32 → ∃ z : Nat, l[1 + i]? = some (.int .u8 ((z : Nat) : Int)) ∧ z < 256 := fun i hi => by
      obtain ⟨z, h1, h2⟩ := hby i hi
      refine ⟨z, ?_, h2⟩
      rw [List.getElem?_take, if_pos hi, List.getElem?_drop] at h1
      exact h1
    obtain ⟨f, hfz⟩ : ∃ f : Nat → Nat, ∀ i, i < 32 → l[1 + i]? = some (.int .u8 ((f i : Nat) : Int)) ∧ f i < 256 := ⟨fun i => if h : i < 32 then Classical.choose (l2 i h) else 0, fun i hi => by
      simp only [dif_pos hi]
      exact Classical.choose_spec (l2 i hi)⟩
    refine ⟨(a.toNat, sumD f), ?_, by show a.toNat < _; omega, okD_sum f fun i hi => (hfz i hi).2⟩
    apply List.ext_getElem?
    intro i
    by_cases hi : i < 33
    · have hr : (rfC (a.toNat, sumD f)).toList[i]? = some (rfF a.toNat (sumD f) i) := by
        have := va_at (rfF a.toNat (sumD f)) hi
        unfold rfC
        simpa using this
      rw [hr]
      unfold rfF
      by_cases h1 : i = 0
      · subst h1
        rw [if_pos rfl, l1]
        congr 2
        show a = ((a.toNat : Nat) : Int)
        omega
      · rw [if_neg h1]
        have := (hfz (i - 1) (by omega)).1
        rw [show 1 + (i - 1) = i by omega] at this
        rw [this]
        congr 3
        show f (i - 1) = dF (sumD f) (i - 1)
        rw [dF_sumD f _ (by omega)]
    · rw [List.getElem?_eq_none (by omega), List.getElem?_eq_none (by rw [Array.length_toList, rfC_size]; omega)]
end Go.Proofs.Ytednfpponkaelaa

namespace Go.Proofs.Ytednfpponkaelaa
open Go Go.ChangeShapes Go.WideShapes Go.ChangeAt Go.RowKit Go.Joins
set_option linter.unusedVariables false
set_option linter.unusedSimpArgs false
/-- a caller's slice holds these references -/
def IsL (w : World) (a : Option Addr) (L : List Rf) : Prop := L = [] ∨ ∃ b o, a = some ⟨b, o, none⟩ ∧ b < w.heap.size ∧ IsF w b o L
theorem IsL.below {w w' : World} {a : Option Addr} {L : List Rf} (h : IsL w a L) (hb : Below w.heap.size w w') : IsL w' a L := by
  rcases h with h | ⟨b, o, h1, h2, h3⟩
  · exact .inl h
  · exact .inr ⟨b, o, h1, Nat.lt_of_lt_of_le h2 hb.size, h3.below hb h2⟩
theorem wpList_append_refsA {P : Program} {ops : Array Oper} {rest : List Oper} {o : Oper} {a : Act} {w : World} {Q : Exit → Act → World → Prop} (hgd : o.guard = none) (s x : Operand) (t : TypeId)
    (ho : o.op = .call { callee := .builtin .append, args := #[s, x], argTypes := #[t, t] }) (B : Nat) (e : TypeId) (i : TypeInfo) (z : Value) (ht : P.underlying t = some (.slice e)) (hi : P.info? e = some i) (hz : i.zero = some z) (hsize : i.size = 33) (hby : i.bytes = 36) (hzs : z.cells.size = 33)
    (g c0 : Nat) (hs : a.eval s = .slice (some ⟨g, 0, none⟩) 0 c0) (hown : w.ownsRow B e 33 (.slice (some ⟨g, 0, none⟩) 0 c0) 0 []) (a1 : Option Addr) (n c : Nat) (L : List Rf) (hl : L.length = n) (hx : a.eval x = .slice a1 n c) (hA : IsL w a1 L) (hN : a1 = none → n = 0 ∧ c = 0) (hn : n * 36 ≤ 140737488355328) (hbase : B ≤ w.heap.size)
    (h : ∀ g' c' w', B ≤ g' → g' < w'.heap.size → IsF w' g' 0 L → Below B w w' → wpList P ops Q rest (a.put o.dst (.slice (some ⟨g', 0, none⟩) n c')) w') : wpList P ops Q (o :: rest) a w := by
  have hv := hown.lt
  cases a1 with
  | none =>
    obtain ⟨rfl, rfl⟩ := hN rfl
    obtain rfl : L = [] := List.length_eq_zero_iff.1 hl
    exact wpList_append_own_none hgd s x t ho B e i 33 ht hi _ 0 [] hs hown hx (h g c0 w (hv g rfl).1 (hv g rfl).2 (fun j u hu => by simp [rfR] at hu) (Below.refl _ _))
  | some ad =>
    refine wpList_append_own _ hgd s x t ho B e i z 33 36 ht hi hz hsize hby hzs (by decide) _ 0 [] hs hown ad n c (rfR L) hx (by rw [rfR_len, hl]) (fun j u hu => ?_) (rfR_mem L) (by unfold maxLen; omega) (by omega) hbase fun v' w' h1 h2 h3 => ?_
    · rcases hA with rfl | ⟨b, o2, e1, _, hf⟩
      · simp [rfR] at hu
      · injection e1 with e2
        subst e2
        rw [Addr.add_mid]
        exact hf j u hu
    · rw [List.nil_append, Nat.zero_add] at h1
      obtain ⟨g', c', rfl⟩ : ∃ g' c', v' = .slice (some ⟨g', 0, none⟩) n c' := by
        rcases h1.2 with ⟨q, _⟩ | ⟨g', cap, cur, q, _⟩
        · have := h3.1 q
          simp at this
        · exact ⟨g', cap, q⟩
      exact h g' c' w' (h1.lt g' rfl).1 (h1.lt g' rfl).2 (own_isF h1) ((Below.refl _ _).grown h2 hbase (fun k hk => (hv k hk).1))
set_option maxRecDepth 100000 in
theorem open_refsN {H : Type} {enc : TypeId × Value → H} {W : World} {a0 : Option Addr} {len cap fuel : Nat} {x : DataW H × List MemPlace}
    (hf : DataW.trod enc Try.prog W 0 (fun _ => true) true fuel 22 [.slice a0 len cap] = some x) (hsz : ∀ n ∈ x.1.weights Try.prog 22, n ≤ reachBytes) :
    ∃ L : List Rf, L.length = len ∧ len * 36 ≤ 140737488351232 ∧ (a0 = none → len = 0 ∧ cap = 0) ∧ (∀ x ∈ L, Rw x) ∧ IsL W a0 L := by
  rcases Deep.open_slice Try.underlying22 hf with ⟨hcs, hx⟩ | ⟨a, len', cap', m, n, D, Pl, hcs, _, hl, hm, hmm, hx, hel⟩
  · simp at hcs
    obtain ⟨rfl, rfl, rfl⟩ := hcs
    exact ⟨[], rfl, by omega, fun _ => ⟨rfl, rfl⟩, fun x hx => by simp at hx, .inl rfl⟩
  · simp at hcs
    obtain ⟨rfl, rfl, rfl⟩ := hcs
    subst hx
    simp only [if_true] at hmm
    subst hmm
    have hu := Try.underlying22
    have hby : Try.prog.bytesOf 31 = 36 := by kernel_rfl
    have hw0 := hsz ((((List.range len).map D).length + ((List.range (m - len)).map fun j => D (len + j)).length) * Try.prog.bytesOf 31) (by simp [DataW.weights, hu])
    rw [hby] at hw0
    simp only [List.length_map, List.length_range] at hw0
    have hlen4 : len * 36 ≤ 140737488351232 := by
      unfold reachBytes at hw0
      omega
    have hce : Try.prog.cellsOf 31 = 33 := by kernel_rfl
    have each : ∀ i, ∃ r : Rf, i < len → Rw r ∧ ∃ b o, a = ⟨b, o, none⟩ ∧ b < W.heap.size ∧ ∀ j, j < 33 → W.cell? ⟨b, o + i * 33 + j, none⟩ = some (rfF r.1 r.2 j) := by
      intro i
      by_cases hi : i < len
      · obtain ⟨cs', h1, h2⟩ := hel i (by omega)
        rw [hce] at h1
        obtain ⟨_, hcl, hcell⟩ := World.cells?_some h1
        obtain ⟨r, e0, e1, e2⟩ := open_ref_cells hcl h2
        refine ⟨r, fun _ => ⟨e2, ?_⟩⟩
        have hget : ∀ j, j < 33 → cs'[j]? = some (rfF r.1 r.2 j) := fun j hj => by
          rw [e0, Array.getElem?_toList]
          exact va_at _ hj
        have hc0 := hcell 0 (by omega)
        have hsp : a.spot = none := by
          have h0 := hget 0 (by omega)
          have hi0 := fun j (hj : j < 33) => (hcell j (by omega))
          obtain ⟨b, off, spot⟩ := a
          by_cases hz : i = 0
          · subst hz
            have q := hi0 0 (by omega)
            rw [h0] at q
            simpa [Addr.add] using World.cell?_spot q
          · have hel0 := hel 0 (by omega)
            obtain ⟨cs0, k1, k2⟩ := hel0
            rw [hce] at k1
            obtain ⟨_, kcl, kcell⟩ := World.cells?_some k1
            obtain ⟨r0, f0, f1, f2⟩ := open_ref_cells kcl k2
            have q := kcell 0 (by omega)
            rw [f0, Array.getElem?_toList] at q
            rw [show (rfC r0)[0]? = some (rfF r0.1 r0.2 0) from va_at _ (by omega)] at q
            simpa [Addr.add] using World.cell?_spot q
        obtain ⟨b, off, spot⟩ := a
        simp only at hsp
        subst hsp
        have hcc : ∀ j, j < 33 → W.cell? ⟨b, off + i * 33 + j, none⟩ = some (rfF r.1 r.2 j) := fun j hj => by
          have := hcell j (by omega)
          rw [hget j hj] at this
          simpa only [Addr.add_mid] using this
        refine ⟨b, off, rfl, ?_, hcc⟩
        have h0 := hcc 0 (by omega)
        apply Nat.lt_of_not_le
        intro hle
        have : W.heap[b]? = none := Array.getElem?_eq_none_iff.2 hle
        simp [World.cell?, this] at h0
      · exact ⟨rf0, fun h => absurd h hi⟩
    refine ⟨(List.range len).map fun i => Classical.choose (each i), by simp, hlen4, fun h => by simp at h, fun x hx => ?_, ?_⟩
    · obtain ⟨i, hi, rfl⟩ := List.mem_map.1 hx
      exact (Classical.choose_spec (each i) (List.mem_range.1 hi)).1
    · by_cases h0 : len = 0
      · left; subst h0; rfl
      · right
        obtain ⟨_, b, o, ea, hb, _⟩ := Classical.choose_spec (each 0) (by omega)
        refine ⟨b, o, by rw [ea], hb, fun j u hu => ?_⟩
        have hj : j < len * 33 := by
          have := (List.getElem?_eq_some_iff.1 hu).1
          rw [rfR_len] at this
          simpa using this
        have hj1 : j / 33 < len := by omega
        obtain ⟨_, b', o', ea', _, hc⟩ := Classical.choose_spec (each (j / 33)) hj1
        rw [ea] at ea'
        obtain ⟨rfl, rfl⟩ : b = b' ∧ o = o' := by simpa using ea'
        have hr := rfR_at ((List.range len).map fun i => Classical.choose (each i)) (j / 33) (Classical.choose (each (j / 33))) (by simp [hj1]) (j % 33) (by omega)
        rw [show j / 33 * 33 + j % 33 = j by omega, hu] at hr
        injection hr with hr
        have := hc (j % 33) (by omega)
        rw [show o + j / 33 * 33 + j % 33 = o + j by omega] at this
        rw [this, hr]
end Go.Proofs.Ytednfpponkaelaa

namespace Go.Proofs.Ytednfpponkaelaa
open Go Go.RowKit Go.Nam
set_option linter.unusedVariables false
set_option linter.unusedSimpArgs false
/-- a reference as a key -/
def rfV (r : Rf) : Value := .agg (rfC r)
theorem chk_ref (d : Nat) (e : Bool) (a : Rf) (w : World) : (Instr.checkKey e (d + 1 + 1 + 1) 31 (rfV a)).run Try.prog w = .ok () w := by
  have h3 : ∀ x : Int, (Instr.checkKey e (d + 1 + 1) 24 (.int .u32 x)).run Try.prog w = .ok () w := fun x => by simp [Instr.checkKey, run_underlying Try.underlying24]
  have h4 : (Instr.checkKey e (d + 1 + 1) 29 (dK a.2)).run Try.prog w = .ok () w := chk_dig d e _ w
  have p3 : (part 24 (va 33 (rfF a.1 a.2)) 0).run Try.prog w = .ok (.int .u32 ((a.1 : Nat) : Int)) w := part_int _ _ Try.underlying24 _ _ _ (va_at (rfF a.1 a.2) (by decide)) w
  have p4 := part_sum a.1 a.2 w
  unfold rfV rfC
  generalize va 33 (rfF a.1 a.2) = vx at *
  generalize dK a.2 = vs at *
  rw [Instr.checkKey]
  simp only [Sem.run_bind, run_underlying Try.underlying31, Result.andThen_ok]
  simp [p3, p4, h3, h4]
theorem ref_key : KeyOf Try.prog 31 rfV where
  desc := ⟨_, Try.underlying31, (fun k h => by cases h), (fun h => by cases h), (fun h => by cases h)⟩
  eq a b w := eq_ref 9997 a b w
  chk e a w := chk_ref 9997 e a w

section
variable {α β : Type} [DecidableEq α] {P : Program} {K : α → Value} {V : β → Value}
theorem run_findPos {kt : TypeId} (hk : KeyOf P kt K) (a : α) (w : World) (b : β) : ∀ (l : List (α × β)) (es : List MapEntry) (i : Nat), es.map (fun e => (e.key, e.val)) = l.map (fun p => (K p.1, V p.2)) → findIn a l = some b →
    ∃ j, (Instr.findAsking kt (K a) es i).run P w = .ok (some (i + j, V b)) w ∧ l[j]? = some (a, b)
  | [], es, i, h, hf => by cases hf
  | p :: l, [], i, h, hf => by simp at h
  | p :: l, e :: es, i, h, hf => by
    simp only [List.map_cons, List.cons.injEq, Prod.mk.injEq] at h
    obtain ⟨⟨h1, h2⟩, h3⟩ := h
    have he := hk.eq a p.1 w
    rw [← h1] at he
    by_cases hq : a = p.1
    · simp only [findIn, if_pos hq] at hf
      cases hf
      refine ⟨0, ?_, by simp [hq]⟩
      simp only [Instr.findAsking, Sem.run_bind, he, Result.andThen_ok, decide_eq_true hq, if_true, Sem.run_pure, Nat.add_zero, h2]
    · simp only [findIn, if_neg hq] at hf
      obtain ⟨j, h4, h5⟩ := run_findPos hk a w b l es (i + 1) h3 hf
      refine ⟨j + 1, ?_, by simpa using h5⟩
      simp only [Instr.findAsking, Sem.run_bind, he, Result.andThen_ok, decide_eq_false hq, Bool.false_eq_true, if_false, h4]
      rw [show i + 1 + j = i + (j + 1) by omega]

end
theorem rf_bits (r : Rf) : Instr.sameBits 10000 (rfV r) (rfV r) = true := by
  unfold rfV
  rw [show (10000 : Nat) = 9999 + 1 from rfl, Instr.sameBits]
  have h1 : ∀ v ∈ (rfC r).toList, Instr.sameBits 9999 v v = true := fun v hv => by
    unfold rfC va at hv
    simp only [List.mem_map] at hv
    obtain ⟨i, _, rfl⟩ := hv
    unfold rfF
    split <;> simp [Instr.sameBits]
  simp only [beq_self_eq_true, Bool.true_and, List.all_eq_true]
  intro p hp
  have h2 : p.1 = p.2 ∧ p.1 ∈ (rfC r).toList := by
    generalize (rfC r).toList = l at hp
    induction l with
    | nil => simp at hp
    | cons x l ih =>
      rcases List.mem_cons.1 hp with rfl | hp
      · exact ⟨rfl, List.mem_cons_self⟩
      · exact ⟨(ih hp).1, List.mem_cons_of_mem _ (ih hp).2⟩
  obtain ⟨x, y⟩ := p
  obtain ⟨h4, h3⟩ := h2
  simp only at h4 h3 ⊢
  rw [← h4]
  exact h1 _ h3
theorem rfV_inj {a b : Rf} (h : rfV a = rfV b) : a = b := by
  unfold rfV at h
  injection h with h
  have h0 := congrArg (fun c => c[0]?) h
  have hd : ∀ i, i < 32 → dF a.2 i = dF b.2 i := fun i hi => by
    have := congrArg (fun c => c[1 + i]?) h
    unfold rfC at this
    simp only [va_at _ (show 1 + i < 33 by omega)] at this
    unfold rfF at this
    rw [if_neg (by omega), if_neg (by omega), show 1 + i - 1 = i by omega] at this
    injection this with this
    injection this with _ this
    omega
  have e : a.1 = b.1 := by
    unfold rfC at h0
    simp only [va_at _ (show 0 < 33 by omega)] at h0
    unfold rfF at h0
    rw [if_pos rfl, if_pos rfl] at h0
    injection h0 with h0
    injection h0 with _ h0
    omega
  obtain ⟨a1, a2⟩ := a
  obtain ⟨b1, b2⟩ := b
  simp only at e hd
  rw [e, dF_inj hd]
/-- what such a map has in it -/
def EsIs (es : Array MapEntry) (clock : Nat) (l : List Rf) : Prop := es.toList.map (fun e => (e.key, e.val)) = l.map (fun a => (rfV a, Value.agg #[])) ∧ (es.toList.map (·.born)).Nodup ∧ (∀ x ∈ es.toList, x.born < clock) ∧ l.Nodup
/-- block r is a set of these references -/
def MapS (w : World) (r : Nat) (l : List Rf) : Prop := ∃ es clock, w.heap[r]? = some (.map es clock) ∧ EsIs es clock l
theorem MapS.new {w : World} {r : Nat} (h : w.heap[r]? = some (.map #[] 0)) : MapS w r [] := ⟨#[], 0, h, rfl, List.nodup_nil, fun x hx => by simp at hx, List.nodup_nil⟩
theorem MapS.keep {w w' : World} {r : Nat} {l : List Rf} (h : MapS w r l) (hk : w'.heap[r]? = w.heap[r]?) : MapS w' r l := by
  obtain ⟨es, c, h1, h2⟩ := h
  exact ⟨es, c, hk.trans h1, h2⟩
theorem MapS.lt {w : World} {r : Nat} {l : List Rf} (h : MapS w r l) : r < w.heap.size := by
  obtain ⟨es, c, h1, h2⟩ := h
  exact (Array.getElem?_eq_some_iff.1 h1).1
theorem findU (a : Rf) : ∀ l : List Rf, findIn a (l.map fun b => (b, ())) = if a ∈ l then some () else none
  | [] => rfl
  | x :: l => by
    simp only [List.map_cons, findIn, findU a l, List.mem_cons]
    by_cases h : a = x
    · simp [h]
    · simp [h]
theorem MapS.put {mt kt et : TypeId} {P : Program} {w : World} {r : Nat} {l : List Rf} (hm : P.underlying mt = some (.map kt et)) (hk : KeyOf P kt rfV) (h : MapS w r l) (a : Rf) :
    ∃ w', (Instr.mapUpdate mt (.map (some r)) (rfV a) (.agg #[])).run P w = .ok () w' ∧ MapS w' r (if a ∈ l then l else l ++ [a]) ∧ Keeps r w w' := by
  obtain ⟨es, clock, hg, he, hb, hc, hn⟩ := h
  have he' : es.toList.map (fun e => (e.key, e.val)) = (l.map fun b => (b, ())).map fun p => (rfV p.1, (fun _ : Unit => Value.agg #[]) p.2) := by rw [he, List.map_map]; rfl
  have hgo : (getObj r).run P w = .ok (.map es clock) w := by simp [getObj, Sem.run, hg]
  have hso : ∀ o, (setObj r o).run P w = .ok () { w with heap := w.heap.setIfInBounds r o } := fun o => by simp [setObj, Sem.run, hg]
  have hr : r < w.heap.size := (Array.getElem?_eq_some_iff.1 hg).1
  have hck := hk.chk false a w
  by_cases hin : a ∈ l
  · rw [if_pos hin]
    obtain ⟨d, hd, n1, n2, n3⟩ := hk.desc
    obtain ⟨j, g1, g2⟩ := run_findPos (V := fun _ : Unit => Value.agg #[]) hk a w () (l.map fun b => (b, ())) es.toList 0 he' (by rw [findU, if_pos hin])
    have hel : es.size = l.length := by
      have := congrArg List.length he
      simpa using this
    have hjl : j < l.length := by
      have := (List.getElem?_eq_some_iff.1 g2).1
      simpa using this
    have hq : (Instr.findKey kt (rfV a) es.toList).run P w = .ok (some (j, Value.agg #[])) w := by
      rw [Nat.zero_add] at g1
      cases hes : es.toList with
      | nil =>
        rw [← Array.length_toList, hes] at hel
        simp at hel
        omega
      | cons e es' =>
        rw [hes] at g1
        simp [Instr.findKey, run_underlying hd, findNow_none n1 n2 n3, g1]
    have hej : ∃ e, es[j]? = some e ∧ e.key = rfV a ∧ e.val = .agg #[] := by
      have h2 := congrArg (fun z => z[j]?) he'
      simp only [List.getElem?_map] at h2
      rw [List.getElem?_map] at g2
      cases hlj : l[j]? with
      | none => rw [hlj] at g2; simp at g2
      | some y =>
        rw [hlj] at g2 h2
        have hy : y = a := by simpa using g2
        rw [Array.getElem?_toList] at h2
        cases hq2 : es[j]? with
        | none => rw [hq2] at h2; simp at h2
        | some e =>
          rw [hq2] at h2
          simp at h2
          exact ⟨e, rfl, by rw [h2.1, hy], h2.2⟩
    obtain ⟨e, e1, e2, e3⟩ := hej
    have hkey : ((Option.map (fun x => x.key) es[j]?).getD (rfV a)) = rfV a := by rw [e1]; exact e2
    have hst : (Instr.keyThatStays (rfV a) (rfV a)).run P w = .ok (rfV a) w := by simp [Instr.keyThatStays, rf_bits a]
    have hmod : (es.modify j fun e => { key := rfV a, val := Value.agg #[], born := e.born }) = es := by
      apply Array.ext_getElem?
      intro i
      rw [Array.getElem?_modify]
      by_cases hij : j = i
      · subst hij
        rw [if_pos rfl, e1]
        obtain ⟨k1, v1, b1⟩ := e
        simp only at e2 e3
        simp [e2, e3]
      · rw [if_neg hij]
    refine ⟨{ w with heap := w.heap.setIfInBounds r (.map es clock) }, ?_, ⟨es, clock, by simp [hr], he, hb, hc, hn⟩, ⟨⟨rfl, rfl, rfl, by simp, fun k hk => ?_⟩, fun k hk _ => ?_⟩⟩
    · simp only [Instr.mapUpdate, run_underlying hm, Sem.run_bind, hgo, hck, hq, Result.andThen_ok, hkey, hst, hso, hmod]
    · simp [Array.getElem?_setIfInBounds, show r ≠ k by omega]
    · simp [Array.getElem?_setIfInBounds, Ne.symm hk]
  · rw [if_neg hin]
    obtain ⟨x, h4, h5, h6⟩ := run_findKey (V := fun _ : Unit => Value.agg #[]) hk a w (l.map fun b => (b, ())) es.toList he'
    obtain rfl := h6 (by rw [findU, if_neg hin])
    refine ⟨{ w with heap := w.heap.setIfInBounds r (.map (es.push { key := rfV a, val := Value.agg #[], born := clock }) (clock + 1)) }, ?_, ⟨es.push { key := rfV a, val := Value.agg #[], born := clock }, clock + 1, by simp [hr], by simp [he], ?_, ?_, ?_⟩, ⟨⟨rfl, rfl, rfl, by simp, fun k hk => ?_⟩, fun k hk _ => ?_⟩⟩
    · simp [Instr.mapUpdate, run_underlying hm, hgo, hck, h4, hso]
    · rw [Array.toList_push, List.map_append, List.nodup_append]
      refine ⟨hb, by simp, fun x hx y hy e => ?_⟩
      obtain ⟨z, hz, rfl⟩ := List.mem_map.1 hx
      have := hc z hz
      simp at hy
      omega
    · intro x hx
      rw [Array.toList_push, List.mem_append] at hx
      rcases hx with hx | hx
      · have := hc x hx; omega
      · simp at hx; subst hx; simp
    · rw [List.nodup_append]
      exact ⟨hn, by simp, fun x hx y hy e => by simp at hy; subst hy; subst e; exact hin hx⟩
    · simp [Array.getElem?_setIfInBounds, show r ≠ k by omega]
    · simp [Array.getElem?_setIfInBounds, Ne.symm hk]
section
variable {P : Program} {ops : Array Oper} {rest : List Oper} {o : Oper} {a : Act} {w : World} {Q : Exit → Act → World → Prop}
theorem wpList_put_S (hg : o.guard = none) (m x v : Operand) (t : TypeId) (hop : o.op = Op.mapUpdate t m x v) (kt et : TypeId) (ht : P.underlying t = some (.map kt et)) (hk : KeyOf P kt rfV) (b : Nat) (l : List Rf) (k : Rf) (hm : a.eval m = .map (some b)) (hx : a.eval x = .agg (rfC k)) (hv : a.eval v = .agg #[]) (h : MapS w b l)
    (hK : ∀ w', MapS w' b (if k ∈ l then l else l ++ [k]) → Keeps b w w' → wpList P ops Q rest (a.put o.dst undef) w') : wpList P ops Q (o :: rest) a w := by
  refine wpList_plain hg fun K' hK' => ?_
  obtain ⟨w', h1, h2, h3⟩ := h.put ht hk k
  unfold rfV at h1
  unfold Oper.wp
  simp [execOp, hop, hm, hx, hv, h1, Result.andThen]
  exact hK' _ _ (hK w' h2 h3)
theorem wpList_len_S (hg : o.guard = none) (m : Operand) (t : TypeId) (hop : o.op = Op.call { callee := Callee.builtin Builtin.len, args := #[m], argTypes := #[t] }) (kt et : TypeId) (ht : P.underlying t = some (.map kt et)) (b : Nat) (l : List Rf) (hm : a.eval m = .map (some b)) (h : MapS w b l)
    (hK : wpList P ops Q rest (a.put o.dst (.int .i64 (l.length : Int))) w) : wpList P ops Q (o :: rest) a w := by
  obtain ⟨es, clock, h1, h2⟩ := h
  have hs : es.size = l.length := by
    have := congrArg List.length h2.1
    simpa using this
  refine wpList_plain hg fun K' hK' => ?_
  unfold Oper.wp
  have hgo : (getObj b).run P w = .ok (.map es clock) w := by simp [getObj, Sem.run, h1]
  have hlen : (Builtin.len_ #[t] o.type #[.map (some b)]).run P w = .ok (.int .i64 (l.length : Int)) w := by
    simp [Builtin.len_, run_underlying ht, hgo, goInt, Result.andThen, hs]
  simp [execOp, hop, resolve, invoke, builtin, hm, hlen, Result.andThen]
  exact hK' _ _ hK
end
end Go.Proofs.Ytednfpponkaelaa

namespace Go.Proofs.Ytednfpponkaelaa
open Go Go.RowKit Go.Nam
open Go.ChangeMaps (setBlock)
set_option linter.unusedVariables false
set_option linter.unusedSimpArgs false
/-- block r goes over the set l in block b; these have come -/
def ItS (w : World) (r b : Nat) (l done : List Rf) : Prop := ∃ es clock since seen c0, w.heap[r]? = some (.mapIter (some b) since seen c0) ∧ w.heap[b]? = some (.map es clock) ∧ EsIs es since l ∧ since ≤ c0 ∧ since ≤ clock ∧ done.Nodup ∧ (∀ e ∈ es.toList, ∀ x, e.key = rfV x → (seen.contains e.born = true ↔ x ∈ done)) ∧ ∀ x ∈ done, x ∈ l
theorem ItS.keep {w w' : World} {r b : Nat} {l done : List Rf} (h : ItS w r b l done) (hr : w'.heap[r]? = w.heap[r]?) (hb : w'.heap[b]? = w.heap[b]?) : ItS w' r b l done := by
  obtain ⟨es, c, s, sn, c0, h1, h2, rest⟩ := h
  exact ⟨es, c, s, sn, c0, hr.trans h1, hb.trans h2, rest⟩
theorem ItS.lt {w : World} {r b : Nat} {l done : List Rf} (h : ItS w r b l done) : r < w.heap.size ∧ b < w.heap.size := by
  obtain ⟨es, c, s, sn, c0, h1, h2, rest⟩ := h
  exact ⟨(Array.getElem?_eq_some_iff.1 h1).1, (Array.getElem?_eq_some_iff.1 h2).1⟩
theorem ItS.le {w : World} {r b : Nat} {l done : List Rf} (h : ItS w r b l done) : done.length ≤ l.length := by
  obtain ⟨es, c, s, sn, c0, h1, h2, h3, h4, h5, h6, h7, h8⟩ := h
  exact h6.length_le_of_subset fun x hx => h8 x hx
/-- an entry and its reference -/
theorem es_mem {es : Array MapEntry} {c : Nat} {l : List Rf} (h : EsIs es c l) {e : MapEntry} (he : e ∈ es.toList) : ∃ x ∈ l, e.key = rfV x ∧ e.val = .agg #[] := by
  have : (e.key, e.val) ∈ es.toList.map (fun e => (e.key, e.val)) := List.mem_map.2 ⟨e, he, rfl⟩
  rw [h.1] at this
  obtain ⟨x, hx, hq⟩ := List.mem_map.1 this
  simp only [Prod.mk.injEq] at hq
  exact ⟨x, hx, hq.1.symm, hq.2.symm⟩
theorem es_of {es : Array MapEntry} {c : Nat} {l : List Rf} (h : EsIs es c l) {x : Rf} (hx : x ∈ l) : ∃ e ∈ es.toList, e.key = rfV x := by
  have : (rfV x, Value.agg #[]) ∈ l.map (fun a => (rfV a, Value.agg #[])) := List.mem_map.2 ⟨x, hx, rfl⟩
  rw [← h.1] at this
  obtain ⟨e, he, hq⟩ := List.mem_map.1 this
  simp only [Prod.mk.injEq] at hq
  exact ⟨e, he, hq.1⟩
/-- two entries of one key are one -/
theorem es_one {es : Array MapEntry} {c : Nat} {l : List Rf} (h : EsIs es c l) {e f : MapEntry} (he : e ∈ es.toList) (hf : f ∈ es.toList) (hk : e.key = f.key) : e = f := by
  have hnd : (es.toList.map (fun e => e.key)).Nodup := by
    have h1 : es.toList.map (fun e => e.key) = l.map rfV := by
      have := congrArg (List.map Prod.fst) h.1
      rw [List.map_map, List.map_map] at this
      exact this
    rw [h1, List.Nodup, List.pairwise_map]
    exact h.2.2.2.imp fun hne e => hne (rfV_inj e)
  obtain ⟨i, hi, rfl⟩ := List.getElem_of_mem he
  obtain ⟨j, hj, rfl⟩ := List.getElem_of_mem hf
  have : i = j := by
    refine (List.getElem_inj (h₀ := by simpa using hi) (h₁ := by simpa using hj) hnd).1 ?_
    simpa using hk
  subst this
  rfl
section
variable {P : Program} {ops : Array Oper} {rest : List Oper} {o : Oper} {a : Act} {w : World} {Q : Exit → Act → World → Prop}
theorem wpList_range_S (hg : o.guard = none) (m : Operand) (t : TypeId) (hop : o.op = Op.range t m) (kt et : TypeId) (ht : P.underlying t = some (.map kt et)) (b : Nat) (l : List Rf) (hm : a.eval m = .map (some b)) (h : MapS w b l)
    (hK : ∀ w', ItS w' w.heap.size b l [] → Below w.heap.size w w' → w'.heap.size = w.heap.size + 1 → wpList P ops Q rest (a.put o.dst (.pointer (some ⟨w.heap.size, 0, none⟩))) w') : wpList P ops Q (o :: rest) a w := by
  obtain ⟨es, clock, h1, h2⟩ := h
  have hb : b < w.heap.size := (Array.getElem?_eq_some_iff.1 h1).1
  refine wpList_plain hg fun K' hK' => ?_
  have hrun := run_range_map (P := P) w t kt et b es clock ht h1
  unfold Oper.wp
  simp [execOp, hop, hm, hrun, Result.andThen]
  refine hK' _ _ (hK _ ⟨es, clock, clock, #[], clock, ?_, ?_, h2, Nat.le_refl _, Nat.le_refl _, List.nodup_nil, fun e he x hx => by simp, fun x hx => by simp at hx⟩ ((Below.refl _ w).alloc (Nat.le_refl _) _) (by simp))
  · exact heap_alloc_new _ _
  · rw [heap_alloc_old _ _ hb]; exact h1
theorem wpList_next_S (hg : o.guard = none) (it : Operand) (hop : o.op = Op.next it false) (r b : Nat) (l done : List Rf) (hit : a.eval it = .pointer (some ⟨r, 0, none⟩)) (h : ItS w r b l done) (hrb : r ≠ b)
    (hDone : (∀ x ∈ l, x ∈ done) → wpList P ops Q rest (a.put o.dst (.tuple #[.bool false])) w)
    (hMore : ∀ (x : Rf) (w' : World), x ∈ l → x ∉ done → ItS w' r b l (done ++ [x]) → Keeps r w w' → (Instr.entry (.pointer (some ⟨r, 0, none⟩))).run P w' = .ok (.tuple #[.agg (rfC x), .agg #[]]) w' → wpList P ops Q rest (a.put o.dst (.tuple #[.bool true, .agg (rfC x), .agg #[]])) w') :
    wpList P ops Q (o :: rest) a w := by
  obtain ⟨es, clock, since, seen, c0, h1, h2, h3, h4, h5, h6, h7, h8⟩ := h
  refine wpList_plain hg fun K' hK' => ?_
  unfold Oper.wp
  rcases run_next_at (P := P) w o.type r b since c0 seen es clock h1 h2 h3.2.2.1 h4 with ⟨g0, hrun⟩ | ⟨e, he, w1, hw1, hrun⟩
  · simp [execOp, hop, hit, hrun, Result.andThen]
    refine hK' _ _ (hDone fun x hx => ?_)
    obtain ⟨e, he, hek⟩ := es_of h3 hx
    exact (h7 e he x hek).1 (all_seen es seen g0 e he)
  · obtain ⟨hem, hes⟩ := mem_left he
    obtain ⟨x, hxl, hxk, hxv⟩ := es_mem h3 hem
    have hxd : x ∉ done := fun hd => by
      have := (h7 e hem x hxk).2 hd
      rw [this] at hes
      cases hes
    rw [hxk, hxv] at hrun
    have hr : r < w.heap.size := (Array.getElem?_eq_some_iff.1 h1).1
    have hh : w1.heap = w.heap := by rcases hw1 with rfl | rfl <;> rfl
    have e1 : (setBlock w1 r (.mapIter (some b) since (seen.push e.born) clock)).heap[r]? = some (.mapIter (some b) since (seen.push e.born) clock) := by simp [setBlock, hh, hr]
    have e2 : ∀ k, k ≠ r → (setBlock w1 r (.mapIter (some b) since (seen.push e.born) clock)).heap[k]? = w.heap[k]? := fun k hk => by simp [setBlock, hh, Array.getElem?_setIfInBounds, Ne.symm hk]
    have hen := run_entry_at (P := P) (setBlock w1 r (.mapIter (some b) since (seen.push e.born) clock)) r b since seen es clock e e1 ((e2 b (Ne.symm hrb)).trans h2) hem h3.2.1
    rw [hxk, hxv] at hen
    unfold rfV at hrun hen
    simp [execOp, hop, hit, hrun, Result.andThen]
    refine hK' _ _ (hMore x _ hxl hxd ⟨es, clock, since, seen.push e.born, clock, e1, (e2 b (Ne.symm hrb)).trans h2, h3, h5, h5, ?_, ?_, ?_⟩ ⟨⟨?_, ?_, ?_, ?_, fun k hk => e2 k (by omega)⟩, fun k hk _ => e2 k hk⟩ hen)
    · rw [List.nodup_append]
      exact ⟨h6, by simp, fun y hy z hz q => by simp at hz; subst hz; subst q; exact hxd hy⟩
    · intro f hf y hy
      rw [contains_push, Bool.or_eq_true, List.mem_append, List.mem_singleton, h7 f hf y hy]
      refine or_congr Iff.rfl ⟨fun q => ?_, fun q => ?_⟩
      · have := born_inj h3.2.1 hf hem (beq_iff_eq.1 q)
        subst this
        rw [hxk] at hy
        exact (rfV_inj hy).symm
      · subst q
        rw [es_one h3 hf hem (by rw [hy, hxk])]
        exact beq_self_eq_true _
    · intro y hy
      rw [List.mem_append, List.mem_singleton] at hy
      rcases hy with hy | rfl
      · exact h8 y hy
      · exact hxl
    · rcases hw1 with rfl | rfl <;> rfl
    · rcases hw1 with rfl | rfl <;> rfl
    · rcases hw1 with rfl | rfl <;> rfl
    · simp [setBlock, hh]
end
end Go.Proofs.Ytednfpponkaelaa

namespace Go.Proofs
open Go.Shelf
def Try.sortRf_ren : Go.Shelf.Ren := ⟨fun | 6 => 14 | 15 => 21 | 14 => 20 | 28 => 36 | 29 => 37 | 20 => 28 | 21 => 29 | 22 => 30 | 23 => 31 | 24 => 32 | 25 => 33 | 26 => 34 | 27 => 35 | 46 => 41 | 47 => 42 | 48 => 43 | 49 => 44 | 50 => 45 | 57 => 49 | n => n, fun | 22 => 22 | 24 => 31 | 25 => 32 | 3 => 3 | 39 => 62 | 0 => 0 | 53 => 24 | 55 => 78 | 4 => 4 | 46 => 70 | 45 => 69 | 50 => 74 | 5 => 5 | 9 => 9 | 66 => 84 | 70 => 88 | 76 => 93 | 77 => 94 | n => n, fun | n => n⟩
theorem Try.sortRf : Go.Proofs.SlLaysF0.n6 Try.prog Try.sortRf_ren := {
  mixed := by kernel_rfl
  f6 := ⟨Try.f14.name, by decide, Try.func14.trans (congrArg some (by kernel_rfl))⟩
  f14 := ⟨Try.f20.name, by decide, Try.func20.trans (congrArg some (by kernel_rfl))⟩
  f15 := Try.func21.trans (congrArg some (by kernel_rfl))
  f20 := ⟨Try.f28.name, by decide, Try.func28.trans (congrArg some (by kernel_rfl))⟩
  f21 := ⟨Try.f29.name, by decide, Try.func29.trans (congrArg some (by kernel_rfl))⟩
  f22 := ⟨Try.f30.name, by decide, Try.func30.trans (congrArg some (by kernel_rfl))⟩
  f23 := ⟨Try.f31.name, by decide, Try.func31.trans (congrArg some (by kernel_rfl))⟩
  f24 := ⟨Try.f32.name, by decide, Try.func32.trans (congrArg some (by kernel_rfl))⟩
  f25 := ⟨Try.f33.name, by decide, Try.func33.trans (congrArg some (by kernel_rfl))⟩
  f26 := ⟨Try.f34.name, by decide, Try.func34.trans (congrArg some (by kernel_rfl))⟩
  f27 := ⟨Try.f35.name, by decide, Try.func35.trans (congrArg some (by kernel_rfl))⟩
  f28 := Try.func36.trans (congrArg some (by kernel_rfl))
  f29 := Try.func37.trans (congrArg some (by kernel_rfl))
  f46 := ⟨Try.f41.name, by decide, Try.func41.trans (congrArg some (by kernel_rfl))⟩
  f47 := Try.func42.trans (congrArg some (by kernel_rfl))
  f48 := Try.func43.trans (congrArg some (by kernel_rfl))
  f49 := ⟨Try.f44.name, by decide, Try.func44.trans (congrArg some (by kernel_rfl))⟩
  f50 := ⟨Try.f45.name, by decide, Try.func45.trans (congrArg some (by kernel_rfl))⟩
  f57 := ⟨Try.f49.name, by decide, Try.func49.trans (congrArg some (by kernel_rfl))⟩
  t0 := Try.underlying0
  a0 := Try.isAgg0
  z0 := Try.sizeOf0
  v0 := Try.zeroValue0
  t3 := Try.underlying3
  a3 := Try.isAgg3
  z3 := Try.sizeOf3
  v3 := Try.zeroValue3
  t4 := Try.underlying4
  a4 := Try.isAgg4
  z4 := Try.sizeOf4
  v4 := Try.zeroValue4
  t5 := Try.underlying5
  a5 := Try.isAgg5
  z5 := Try.sizeOf5
  v5 := Try.zeroValue5
  t9 := Try.underlying9
  a9 := Try.isAgg9
  z9 := Try.sizeOf9
  v9 := Try.zeroValue9
  t22 := Try.underlying22
  a22 := Try.isAgg22
  z22 := Try.sizeOf22
  v22 := Try.zeroValue22
  t25 := Try.underlying32
  a25 := Try.isAgg32
  z25 := Try.sizeOf32
  v25 := Try.zeroValue32
  t39 := Try.underlying62
  a39 := Try.isAgg62
  z39 := Try.sizeOf62
  v39 := Try.zeroValue62
  t45 := Try.underlying69
  a45 := Try.isAgg69
  z45 := Try.sizeOf69
  v45 := Try.zeroValue69
  t46 := Try.underlying70
  a46 := Try.isAgg70
  z46 := Try.sizeOf70
  v46 := Try.zeroValue70
  t50 := Try.underlying74
  a50 := Try.isAgg74
  z50 := Try.sizeOf74
  v50 := Try.zeroValue74
  t53 := Try.underlying24
  a53 := Try.isAgg24
  z53 := Try.sizeOf24
  v53 := Try.zeroValue24
  t55 := Try.underlying78
  a55 := Try.isAgg78
  z55 := Try.sizeOf78
  v55 := Try.zeroValue78
  t66 := Try.underlying84
  a66 := Try.isAgg84
  z66 := Try.sizeOf84
  v66 := Try.zeroValue84
  t70 := Try.underlying88
  a70 := Try.isAgg88
  z70 := Try.sizeOf88
  v70 := Try.zeroValue88
  t76 := Try.underlying93
  a76 := Try.isAgg93
  z76 := Try.sizeOf93
  v76 := Try.zeroValue93
  t77 := Try.underlying94
  a77 := Try.isAgg94
  z77 := Try.sizeOf94
  v77 := Try.zeroValue94 }
end Go.Proofs

namespace Go.Proofs.Ytednfpponkaelaa
open Go Go.RowKit Go.Nam Go.Sort Go.Shelf Go.Lib
set_option linter.unusedVariables false
set_option linter.unusedSimpArgs false
/-- references whose bytes are bytes -/
abbrev Rb := { r : Rf // Rw r }
theorem rw0 : Rw rf0 := fun i hi => by
  unfold dF rf0
  simp [hi]
instance : Inhabited Rb := ⟨⟨rf0, rw0⟩⟩
def encB (r : Rb) : List Value := (List.range 33).map (rfF r.1.1 r.1.2)
def cmB (a b : Rb) : Int := cmR a.1 b.1
theorem swoB : SWO (ltOf cmB) where
  irrefl x := by unfold ltOf cmB; rw [cmR_self]; rfl
  trans x y z h1 h2 := by
    unfold ltOf cmB at *
    exact decide_eq_true (cmR_trans (of_decide_eq_true h1) (of_decide_eq_true h2))
  ntrans x y z h1 h2 := by
    unfold ltOf cmB at *
    have h1 := of_decide_eq_false h1
    have h2 := of_decide_eq_false h2
    refine decide_eq_false fun h => ?_
    have a1 : cmR y.1 x.1 ≤ 0 := by rw [cmR_flip]; omega
    have a2 : cmR z.1 y.1 ≤ 0 := by rw [cmR_flip]; omega
    have a3 := cmR_le a2 a1
    rw [cmR_flip] at a3
    omega
theorem cmpB (blk off size : Nat) (w : World) : CmpLays Try.prog 5 #[] encB 33 cmB blk off size w := fun m os dk _ x y => by
  have := ncompare_any x.1 y.1 x.2 y.2 (sortWorldK encB 33 w blk off m dk os)
  exact this
/-- the row's cells -/
theorem flat_at (d : Array Rb) (t : Nat) (ht : t < d.size * 33) : (rfR (d.toList.map fun r => r.1))[t]? = some ((flatK encB 33 d)[t]!) := by
  rw [get_flatK _ _ _ t ht]
  have h1 : t / 33 < d.size := by omega
  have hx : (d.toList.map fun r => r.1)[t / 33]? = some (d[t / 33]!).1 := by
    rw [List.getElem?_map, Array.getElem?_toList, Array.getElem?_eq_getElem h1, getElem!_pos d _ h1]
    rfl
  have := rfR_at _ _ _ hx (t % 33) (by omega)
  rw [show t / 33 * 33 + t % 33 = t by omega] at this
  rw [this]
  unfold encB
  simp [Nat.mod_lt t (show 33 > 0 by omega)]
theorem pmap_val : ∀ (D : List Rf) (h : ∀ x ∈ D, Rw x), (D.pmap (fun x hx => (⟨x, hx⟩ : Rb)) h).map (fun r => r.1) = D
  | [], _ => rfl
  | x :: D, h => by simp [pmap_val D]
theorem sortRf_any (B g cap : Nat) (D : List Rf) (hD : ∀ x ∈ D, Rw x) (hnd : D.Nodup) (hsz : D.length * 36 ≤ 140737488355328) (w : World) (hrow : w.ownsRow B 31 33 (.slice (some ⟨g, 0, none⟩) D.length cap) D.length (rfR D)) :
    Calls Try.prog 14 #[.slice (some ⟨g, 0, none⟩) D.length cap, .func (.func 5) #[] #[]] w fun e w' => e = .returned (.tuple #[]) ∧ ∃ D', Up D' ∧ (∀ x, x ∈ D' ↔ x ∈ D) ∧ D'.length = D.length ∧ IsF w' g 0 D' ∧ Keeps g w w' := by
  have eg : ∀ args w, (callFunc 5 args).run Try.prog w = .ok (.enter 5 args) w := enters_of Try.func5 (by kernel_rfl) rfl
  obtain ⟨d, hd⟩ : ∃ d : Array Rb, d.toList.map (fun r => r.1) = D := ⟨(D.pmap (fun x hx => (⟨x, hx⟩ : Rb)) hD).toArray, by simpa using pmap_val D hD⟩
  have hl : d.size = D.length := by rw [← hd]; simp
  have hg : g < w.heap.size := (hrow.lt g rfl).2
  have hblk : ∃ cur, w.heap[g]? = some (.cells cur 31 (0, 0)) := by
    rcases hrow.2 with ⟨h, _⟩ | ⟨g', cap', cur, h, _, h2, _⟩
    · cases h
    · cases h; exact ⟨cur, h2⟩
  obtain ⟨cur, hcur⟩ := hblk
  have hH : HoldsK encB 33 w g 0 d := fun t ht => by
    rw [size_flatK] at ht
    have h1 := flat_at d t ht
    rw [hd] at h1
    refine ⟨?_, by simp [World.frozen?, hcur]⟩
    rw [Nat.zero_add, hrow.cellAt t (by rw [← hl]; exact ht)]
    exact h1
  have hcon := AnyQ.slices_SortFunc Try.sortRf 33 Try.isAgg31 Try.sizeOf31 encB (fun x => by simp [encB]) (fun x v hv => by
    unfold encB at hv
    obtain ⟨i, _, rfl⟩ := List.mem_map.1 hv
    exact rfF_one _ _ _) cmB swoB 5 #[] g 0 cap d w eg (cmpB g 0 d.size w) hH hg (by omega)
  rw [hl] at hcon
  refine (show Calls Try.prog 14 _ _ _ from hcon).mono ?_
  rintro e w' ⟨rfl, d', n, os, hp, hs, rfl⟩
  have hsz' : d'.size = d.size := hp.1
  have hperm : d'.toList.Perm d.toList := by
    have := hp.2.2
    rw [← hl] at this
    have e1 : d'.extract 0 d.size = d' := by rw [← hsz']; simp
    have e2 : d.extract 0 d.size = d := by simp
    rw [e1, e2] at this
    exact this
  have hmp : (d'.toList.map fun r : Rb => r.1).Perm D := by rw [← hd]; exact hperm.map _
  have hkeep : ∀ k, k < w.heap.size → k ≠ g → (sortWorldK encB 33 w g 0 n d' os).heap[k]? = w.heap[k]? := fun k hk hne => by
    unfold sortWorldK putRowK
    rw [heap_grow_old _ _ (by simpa [putRow, mapBlock, Sort.ahead] using hk)]
    simp [putRow, mapBlock, Sort.ahead, Array.getElem?_modify, Ne.symm hne]
  have hH' := holdsK_sortWorldK_c encB 33 w g 0 d d' n os hH hg hsz'
  refine ⟨rfl, d'.toList.map (fun r => r.1), ?_, fun x => hmp.mem_iff, hmp.length_eq, fun j u hu => ?_, ⟨⟨rfl, rfl, rfl, size_sortWorldK_c encB 33 w g 0 n d' os, fun k hk => ?_⟩, fun k hk hkl => ?_⟩⟩
  · have hnd' : (d'.toList.map fun r : Rb => r.1).Nodup := hmp.nodup_iff.2 hnd
    unfold Up
    rw [List.pairwise_iff_getElem]
    intro i j hi hj hij
    have hi' : i < d'.size := by simpa using hi
    have hj' : j < d'.size := by simpa using hj
    have h1 := hs i j (Nat.zero_le _) hij (by rw [← hl, ← hsz']; exact hj')
    rw [getElem!_pos d' j hj', getElem!_pos d' i hi'] at h1
    have h2 := of_decide_eq_false h1
    unfold cmB at h2
    have h3 : (d'.toList.map fun r : Rb => r.1)[i] ≠ (d'.toList.map fun r : Rb => r.1)[j] := fun e => by
      have := (List.getElem_inj (h₀ := hi) (h₁ := hj) hnd').1 e
      omega
    simp only [List.getElem_map, Array.getElem_toList] at h3 ⊢
    have h4 := cmR_one d'[i].1 d'[j].1
    have h5 : cmR d'[i].1 d'[j].1 ≠ 0 := fun e => h3 ((cmR_zero _ _).1 e)
    rw [cmR_flip] at h2
    omega
  · have hj : j < d'.size * 33 := by
      have := (List.getElem?_eq_some_iff.1 hu).1
      rw [rfR_len] at this
      simpa using this
    have h1 := (hH' j (by rw [size_flatK]; exact hj)).1
    rw [flat_at d' j hj] at hu
    rw [h1, ← hu]
    rfl
  · exact hkeep k (by omega) (by omega)
  · exact hkeep k hkl hk
end Go.Proofs.Ytednfpponkaelaa

namespace Go.Proofs.Ytednfpponkaelaa
open Go Go.RowKit

/-- the plan of a region's walk -/
inductive Plan where
  | fin (takes : List Nat)
  | force (ts : List Nat) (i : Nat) (next : Plan)
  | yield (ts : List Nat) (i : Nat) (next : Plan)
  | fork (i j : Nat) (p q : Plan)
def Plan.len : Plan → Nat
  | .fin takes => takes.length
  | .force ts _ p => ts.length + (1 + p.len)
  | .yield ts _ p => ts.length + (1 + p.len)
  | .fork _ _ p _ => p.len + 1
/-- the check -/
def Plan.ok (ops : Array Oper) : Plan → Array Bool → Bool
  | .fin takes, listed => match takesB .any ops [] [] takes listed with
    | some l => (Region.ready .any ops l).isEmpty
    | none => false
  | .force ts i p, listed => match takesB .any ops [] [] ts listed with
    | some l => forceW .any ops l i && p.ok ops (l.setIfInBounds i true)
    | none => false
  | .yield ts i p, listed => match takesB .any ops [] [] ts listed with
    | some l => yieldW .any ops l [] i && p.ok ops (l.setIfInBounds i true)
    | none => false
  | .fork i j p q, listed => Region.ready .any ops listed == [i, j] && (ops[i]?).isSome && (ops[j]?).isSome && p.len == q.len && p.ok ops (listed.setIfInBounds i true) && q.ok ops (listed.setIfInBounds j true)
def Plan.whole (ops : Array Oper) (p : Plan) : Bool := p.len == ops.size && Region.noSelect ops && p.ok ops (Array.replicate ops.size false)
section
variable {P : Program} {ops : Array Oper} {Q : Exit → Act → World → Prop} {S : World → Prop}
/-- the walk -/
def wpPlan (P : Program) (ops : Array Oper) (Q : Exit → Act → World → Prop) (S : World → Prop) : Plan → Act → World → Prop
  | .fin takes, a, w => wpList P ops (Strict Q) (takes.filterMap fun i => ops[i]?) a w
  | .force ts i p, a, w => wpList P ops (Strict fun _ a' w' => S w' ∧ wpPlan P ops Q S p a' w') ((ts ++ [i]).filterMap fun i => ops[i]?) a w
  | .yield ts i p, a, w => wpList P ops (Strict fun _ a' w' => ∃ o v, ops[i]? = some o ∧ YieldsIf P ops S o v a' ∧ wpPlan P ops Q S p (a'.put o.dst v) w') ((ts ++ []).filterMap fun i => ops[i]?) a w
  | .fork i j p q, a, w => wpList P ops (Strict fun _ a' w' => S w' ∧ wpPlan P ops Q S p a' w') ([i].filterMap fun i => ops[i]?) a w ∧ wpList P ops (Strict fun _ a' w' => S w' ∧ wpPlan P ops Q S q a' w') ([j].filterMap fun i => ops[i]?) a w
theorem plan_step (hs : Region.noSelect ops = true) : ∀ (p : Plan) (listed : Array Bool) (a : Act) (w : World), p.ok ops listed = true → S w →
      wpPlan P ops Q S p a w → wpAnyW P .any ops (Strict Q) S (([] : List Nat).contains ·) p.len listed a w
  | .fin takes, listed, a, w, hb, hS, h => by
    unfold Plan.ok at hb
    split at hb
    · rename_i l2 hl2
      have h2 : wpList P ops (Strict Q) ((takes ++ []).filterMap fun i => ops[i]?) a w := by
        rw [List.append_nil]
        exact h
      exact takesS_step hs [] 0 Q takes listed l2 a w hl2 (fun a' w' _ h' => ⟨by simpa using hb, h'⟩) hS h2
    · cases hb
  | .force ts i p, listed, a, w, hb, hS, h => by
    unfold Plan.ok at hb
    split at hb
    · rename_i l2 hl2
      simp only [Bool.and_eq_true] at hb
      refine takesS_step hs [i] _ _ ts listed l2 a w hl2 (fun a' w' _ h' => ?_) hS h
      obtain ⟨o, ho⟩ := has_op' hb.1
      rw [Nat.add_comm 1]
      refine forceS_step hb.1 (wpOp_mono (fun a2 w2 h2 => ?_) (wpOp_strict (wpList_one ho h')))
      have h3 := h2.2
      exact ⟨fun _ => h3.1, plan_step hs p _ a2 w2 hb.2 h3.1 h3.2⟩
    · cases hb
  | .yield ts i p, listed, a, w, hb, hS, h => by
    unfold Plan.ok at hb
    split at hb
    · rename_i l2 hl2
      simp only [Bool.and_eq_true] at hb
      refine takesS_step hs [] _ _ ts listed l2 a w hl2 (fun a' w' hS' h' => ?_) hS h
      obtain ⟨-, o, v, ho, hy, hn⟩ := h'
      have hc := hb.1
      unfold yieldW at hc
      rw [ho] at hc
      simp only [Bool.and_eq_true, Bool.not_eq_true'] at hc
      rw [Nat.add_comm 1]
      exact takeS_gen hs ho hc.1.1.1 hc.1.1.2 hc.1.2 hc.2 hy hS' (plan_step hs p _ _ w' hb.2 hS' hn)
    · cases hb
  | .fork i j p q, listed, a, w, hb, hS, h => by
    simp only [Plan.ok, Bool.and_eq_true, beq_iff_eq] at hb
    obtain ⟨⟨⟨⟨⟨hr, hi⟩, hj⟩, hl⟩, hp⟩, hq⟩ := hb
    refine ⟨fun h0 => (by rw [h0] at hr; cases hr), fun x hx => ?_⟩
    rw [hr] at hx
    have hx2 : x = i ∨ x = j := by simpa using hx
    rcases hx2 with rfl | rfl
    · obtain ⟨o, ho⟩ := Option.isSome_iff_exists.1 hi
      refine wpOp_mono (fun a' w' h' => ?_) (wpOp_strict (wpList_one ho h.1))
      exact ⟨fun _ => h'.2.1, plan_step hs p _ a' w' hp h'.2.1 h'.2.2⟩
    · obtain ⟨o, ho⟩ := Option.isSome_iff_exists.1 hj
      refine wpOp_mono (fun a' w' h' => ?_) (wpOp_strict (wpList_one ho h.2))
      have := plan_step hs q _ a' w' hq h'.2.1 h'.2.2
      rw [← hl] at this
      exact ⟨fun _ => h'.2.1, this⟩
/-- THE LAW. -/
theorem wp_region_plan {id : Nat} {a : Act} {w : World} (S : World → Prop) (p : Plan) (hm : P.follows .mixedOrders = true) (hB : p.whole ops = true)
    (hS : S w.drew) (h : wpPlan P ops Q S p a w.drew) : (Code.region id ops true).wp P Q a w := by
  unfold Plan.whole at hB
  simp only [Bool.and_eq_true, beq_iff_eq] at hB
  refine Code.wp_mono Strict.imp (wp_region_any hm ?_)
  rw [← hB.1.1]
  exact wpAny_of_W _ _ _ _ (plan_step hB.1.2 p _ a _ (by rw [hB.1.1]; exact hB.2) hS h)
theorem plan_force {ts : List Nat} {i : Nat} {p : Plan} {a : Act} {w : World}
    (h : wpList P ops (Strict fun _ a' w' => S w' ∧ wpPlan P ops Q S p a' w') ((ts ++ [i]).filterMap fun i => ops[i]?) a w) : wpPlan P ops Q S (.force ts i p) a w := h
theorem plan_yield {ts : List Nat} {i : Nat} {p : Plan} {a : Act} {w : World}
    (h : wpList P ops (Strict fun _ a' w' => ∃ o v, ops[i]? = some o ∧ YieldsIf P ops S o v a' ∧ wpPlan P ops Q S p (a'.put o.dst v) w') ((ts ++ []).filterMap fun i => ops[i]?) a w) : wpPlan P ops Q S (.yield ts i p) a w := h
theorem plan_fork {i j : Nat} {p q : Plan} {a : Act} {w : World} (h1 : wpList P ops (Strict fun _ a' w' => S w' ∧ wpPlan P ops Q S p a' w') ([i].filterMap fun i => ops[i]?) a w)
    (h2 : wpList P ops (Strict fun _ a' w' => S w' ∧ wpPlan P ops Q S q a' w') ([j].filterMap fun i => ops[i]?) a w) : wpPlan P ops Q S (.fork i j p q) a w := ⟨h1, h2⟩
theorem plan_fin {takes : List Nat} {a : Act} {w : World} (h : wpList P ops (Strict Q) (takes.filterMap fun i => ops[i]?) a w) : wpPlan P ops Q S (.fin takes) a w := h
end
end Go.Proofs.Ytednfpponkaelaa
