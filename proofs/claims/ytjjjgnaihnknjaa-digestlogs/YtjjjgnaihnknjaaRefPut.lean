/- An entry put into a list of entries, by the document: its contract. -/
import Derived.Test.YtjjjgnaihnknjaaLogOf
import Derived.Shelf.SlMaps.Clone
import Derived.Handy
import Derived.Test.YtjjjgnaihnknjaaSegs
import Derived.Test.YtjjjgnaihnknjaaLogColl

namespace Go.Proofs.Ytjjjgnaihnknjaa
open Go.RowKit
set_option linter.unusedSimpArgs false
set_option linter.unusedVariables false

set_option maxRecDepth 100000 in
set_option maxHeartbeats 2000000 in
theorem mapsClone_any (r : Nat) (l : List ((Nat × ByteArray) × (Nat → Nat))) (w : World) (h : MapIs entV sumV w r l) :
    Calls Try.prog 53 #[.map (some r)] w fun e w' => ∃ r', e = .returned (.map (some r')) ∧ w.heap.size ≤ r' ∧ MapIs entV sumV w' r' l ∧ Below w.heap.size w w' := by
  obtain ⟨es, cl, hg, he⟩ := h
  have hq := fun w => run_eql_map_nil_sl (P := Try.prog) w 93 _ _ (some r) Try.underlying93
  go_enter Try.func53, Try.ntmps53
  go_wp2_with fail
  rw [run_callFunc_extern Try.func69 (by kernel_rfl) (by kernel_rfl) (by kernel_rfl) (e := Extern.MapsClone.clone) (by kernel_rfl), run_maps_clone_sl w 93 hg]
  simp only [Result.andThen]
  rw [Oper.upon_value]
  go_wp2_with fail
  rw [run_typeAssert_map_sl _ 93 _ _ _ _ Try.underlying93]
  simp only [Result.andThen]
  rw [Oper.upon_value]
  go_wp2_with fail
  go_ret
  exact ⟨w.heap.size, rfl, Nat.le_refl _, ⟨es, cl, heap_alloc_new w _, he⟩, (Below.refl _ _).alloc (Nat.le_refl _) _⟩

theorem eq_slice_nil (d : Nat) (p : Option Addr) (n cap : Nat) (w : World) : (Op.equalIn (d + 1) 94 (.slice p n cap) (.slice none 0 0)).run Try.prog w = .ok p.isNone w := by
  cases p <;> simp [Op.equalIn, run_underlying Try.underlying94]
theorem slice_nil (p : Option Addr) (n cap : Nat) (w : World) : Sem.run Try.prog (binOp .eql 94 (.slice p n cap) (.slice none 0 0)) w = .ok (.bool p.isNone) w := by
  simp only [binOp]
  simp [show Op.equal 94 (.slice p n cap) (.slice none 0 0) = Op.equalIn (9999 + 1) 94 (.slice p n cap) (.slice none 0 0) from rfl, eq_slice_nil 9999 p n cap w]
set_option maxRecDepth 100000 in
set_option maxHeartbeats 2000000 in
theorem slicesClone_any (n : Nat) (hn : n ≤ 4000000000000) (v : Value) (xs : List Value) (hone : ∀ u ∈ xs, u.oneCell' = true) (w : World) (h : w.ownsRow 0 98 2 v n xs) :
    Calls Try.prog 52 #[v] w fun e w' => ∃ v', e = .returned v' ∧ w'.ownsRow w.heap.size 98 2 v' n xs ∧ Below w.heap.size w w' := by
  obtain ⟨i0, hi, hz0, hz1, hz2⟩ := info_parts infoEnt
  rcases h.2 with ⟨rfl, rfl⟩ | ⟨b, cap, cur, rfl, _, hgg, _⟩
  · have hx : xs = [] := List.eq_nil_of_length_eq_zero (by simpa using h.1)
    subst hx
    go_enter Try.func52, Try.ntmps52
    have hq := slice_nil none 0 0
    go_wp2_with fail
    go_ret
    exact ⟨_, rfl, World.ownsRow_nil _ _ _ _, Below.refl _ _⟩
  · have hq := slice_nil (some ⟨b, 0, none⟩) n cap
    have HC : Hid (∀ j u, xs[j]? = some u → (w.alloc (.cells #[] 98)).cell? ((⟨b, 0, none⟩ : Addr).add j) = some u) := (h.alloc _).cells rfl
    have HO : Hid ((w.alloc (.cells #[] 98)).ownsRow w.heap.size 98 2 (.slice (some ⟨w.heap.size, 0, none⟩) 0 0) 0 []) := World.ownsRow_lit w #[] 0 (Nat.le_refl _) (by decide) rfl
    have hl := h.1
    go_enter Try.func52, Try.ntmps52
    go_wp2_with (first
      | (at_builtin; refine wpList_append_own _ rfl _ _ 94 rfl w.heap.size 98 i0 _ 2 24 Try.underlying94 hi hz0 hz1 hz2 rfl (by decide) _ _ _ rfl HO.out ⟨b, 0, none⟩ n cap xs rfl hl HC.out hone (by unfold maxLen; omega) (by omega) (by simp) ?_)
      | go_in)
    intro v2 w2 hown2 hgrow2 _
    have hb2 : Below w.heap.size w w2 := ((Below.refl _ _).alloc (Nat.le_refl _) _).grown hgrow2 (by simp) (fun k hk => by simp [Value.ownBlock] at hk; omega)
    go_wp2_with fail
    go_ret
    refine ⟨_, rfl, ?_, hb2⟩
    simpa using hown2
theorem entCells_one (E : List (Nat × ByteArray)) : ∀ u ∈ entCells E, u.oneCell' = true := fun u hu => by
  unfold entCells at hu
  obtain ⟨e, _, he⟩ := List.mem_flatMap.1 hu
  simp at he
  rcases he with rfl | rfl <;> rfl
set_option maxRecDepth 100000 in
set_option maxHeartbeats 4000000 in
theorem logClone_any (g r : Nat) (v : Value) (E : List (Nat × ByteArray)) (hE : E.length ≤ 4000000000000) (w : World) (h : LogAt w g r v E) :
    Calls Try.prog 33 #[.pointer (some ⟨g, 0, none⟩)] w fun e w' => ∃ g' r' v', e = .returned (.pointer (some ⟨g', 0, none⟩)) ∧ w.heap.size ≤ g' ∧ w.heap.size ≤ r' ∧ (∀ k, v'.ownBlock = some k → w.heap.size ≤ k) ∧ LogAt w' g' r' v' E ∧ Below w.heap.size w w' := by
  have hS : Hid (∀ w : World, w.ownsRow 0 98 2 v E.length (entCells E) → Calls Try.prog 52 #[v] w fun e w' => ∃ v', e = .returned v' ∧ w'.ownsRow w.heap.size 98 2 v' E.length (entCells E) ∧ Below w.heap.size w w') := fun w hw => slicesClone_any E.length hE v (entCells E) (entCells_one E) w hw
  have hMC : Hid (∀ w : World, MapIs entV sumV w r (E.map fun e => (e, sumOf e)) → Calls Try.prog 53 #[.map (some r)] w fun e w' => ∃ r', e = .returned (.map (some r')) ∧ w.heap.size ≤ r' ∧ MapIs entV sumV w' r' (E.map fun e => (e, sumOf e)) ∧ Below w.heap.size w w') := fun w hw => mapsClone_any r _ w hw
  obtain ⟨hB, hown, hM⟩ := h
  have hgl := hB.lt
  have hrl : r < w.heap.size := by obtain ⟨es, cl, hg, _⟩ := hM; exact (Array.getElem?_eq_some_iff.1 hg).1
  go_enter Try.func33, Try.ntmps33
  go_wp2_with fail
  refine wp_region_partsI [] [([0, 5], 1, true), ([], 2, true), ([], 3, true), ([], 6, true), ([], 7, true), ([], 8, true), ([], 4, false), ([], 9, false), ([], 10, false), ([], 11, false)] [12] [] w.heap.size (by kernel_rfl) (by kernel_rfl) (fun _ hx => nomatch hx) (partsI_yield ?_)
  simp only [List.cons_append, List.nil_append, List.append_nil, List.filterMap_cons, List.filterMap_nil, List.getElem?_toArray, List.getElem?_cons_zero, List.getElem?_cons_succ]
  go_wp2_with fail
  refine ⟨rfl, _, .pointer (some ⟨g, 0, none⟩), rfl, Or.inl ⟨by rfl, fun W hW => by go_simp⟩, partsI_yield ?_⟩
  simp only [Act.put, List.setIfInBounds_toArray, List.set_cons_zero, List.set_cons_succ]
  simp only [List.cons_append, List.nil_append, List.append_nil, List.filterMap_cons, List.filterMap_nil, List.getElem?_toArray, List.getElem?_cons_zero, List.getElem?_cons_succ]
  go_wp2_with fail
  refine ⟨rfl, _, .pointer (some ⟨g, 0, none⟩), rfl, Or.inl ⟨by rfl, fun W hW => by go_simp⟩, partsI_yield ?_⟩
  simp only [Act.put, List.setIfInBounds_toArray, List.set_cons_zero, List.set_cons_succ]
  simp only [List.cons_append, List.nil_append, List.append_nil, List.filterMap_cons, List.filterMap_nil, List.getElem?_toArray, List.getElem?_cons_zero, List.getElem?_cons_succ]
  go_wp2_with fail
  refine ⟨rfl, _, v, rfl, Or.inl ⟨by rfl, fun W hW => by have cw : W.cell? ⟨g, 0, none⟩ = some v := (by rw [(hB.below hW hB.lt).cell]; rfl); go_simp⟩, partsI_yield ?_⟩
  simp only [Act.put, List.setIfInBounds_toArray, List.set_cons_zero, List.set_cons_succ]
  simp only [List.cons_append, List.nil_append, List.append_nil, List.filterMap_cons, List.filterMap_nil, List.getElem?_toArray, List.getElem?_cons_zero, List.getElem?_cons_succ]
  go_wp2_with fail
  refine ⟨rfl, _, .pointer (some ⟨g, 0, none⟩), rfl, Or.inl ⟨by rfl, fun W hW => by go_simp⟩, partsI_yield ?_⟩
  simp only [Act.put, List.setIfInBounds_toArray, List.set_cons_zero, List.set_cons_succ]
  simp only [List.cons_append, List.nil_append, List.append_nil, List.filterMap_cons, List.filterMap_nil, List.getElem?_toArray, List.getElem?_cons_zero, List.getElem?_cons_succ]
  go_wp2_with fail
  refine ⟨rfl, _, .pointer (some ⟨g, 1, none⟩), rfl, Or.inl ⟨by rfl, fun W hW => by go_simp⟩, partsI_yield ?_⟩
  simp only [Act.put, List.setIfInBounds_toArray, List.set_cons_zero, List.set_cons_succ]
  simp only [List.cons_append, List.nil_append, List.append_nil, List.filterMap_cons, List.filterMap_nil, List.getElem?_toArray, List.getElem?_cons_zero, List.getElem?_cons_succ]
  go_wp2_with fail
  refine ⟨rfl, _, .map (some r), rfl, Or.inl ⟨by rfl, fun W hW => by have cw : W.cell? ⟨g, 1, none⟩ = some (.map (some r)) := (by rw [(hB.below hW hB.lt).cell]; rfl); go_simp⟩, partsI_force ?_⟩
  simp only [Act.put, List.setIfInBounds_toArray, List.set_cons_zero, List.set_cons_succ]
  simp only [List.cons_append, List.nil_append, List.append_nil, List.filterMap_cons, List.filterMap_nil, List.getElem?_toArray, List.getElem?_cons_zero, List.getElem?_cons_succ]
  go_wp2_with fail
  refine (hS.out _ (show w.drew.ownsRow _ _ _ _ _ _ from hown)).mono ?_
  rintro e w1 ⟨v1, rfl, own1, hb1⟩
  have hS1 : Below w.heap.size w w1 := (Below.refl _ _).drew.trans (hb1.mono (Nat.le_refl _))
  have hM1 := hM.below hS1 hrl
  have own1' : w1.ownsRow w.heap.size 98 2 v1 E.length (entCells E) := own1
  clear hb1 own1
  go_wp2_with fail
  refine ⟨rfl, hS1, partsI_force ?_⟩
  simp only [List.cons_append, List.nil_append, List.append_nil, List.filterMap_cons, List.filterMap_nil, List.getElem?_toArray, List.getElem?_cons_zero, List.getElem?_cons_succ]
  go_wp2_with fail
  refine (hMC.out _ hM1).mono ?_
  rintro e w2 ⟨r2, rfl, hr2, hM2, hb2⟩
  have hS2 : Below w.heap.size w w2 := hS1.trans (hb2.mono hS1.size)
  have own2 : w2.ownsRow w.heap.size 98 2 v1 E.length (entCells E) := own_block own1' (fun k hk => hb2.block k (own1'.lt k hk).2)
  have hr2' : w.heap.size ≤ r2 := Nat.le_trans hS1.size hr2
  have hr2l : r2 < w2.heap.size := by obtain ⟨es, cl, hg, _⟩ := hM2; exact (Array.getElem?_eq_some_iff.1 hg).1
  have hone : v1.oneCell' = true := by
    rcases own2.2 with ⟨q, _⟩ | ⟨_, _, _, q, _⟩
    · rw [q]; rfl
    · rw [q]; rfl
  obtain ⟨av, cv, hv1⟩ : ∃ a c, v1 = .slice a E.length c := by
    rcases own2.2 with ⟨h1, h2⟩ | ⟨b, cap, cur, h1, _⟩
    · exact ⟨none, 0, by rw [h1, h2]⟩
    · exact ⟨_, cap, h1⟩
  subst hv1
  clear hb2 own1'
  go_wp2_with fail
  refine ⟨rfl, hS2, partsI_force ?_⟩
  simp only [List.cons_append, List.nil_append, List.append_nil, List.filterMap_cons, List.filterMap_nil, List.getElem?_toArray, List.getElem?_cons_zero, List.getElem?_cons_succ]
  go_wp2_with fail
  refine ⟨rfl, hS2, partsI_force ?_⟩
  simp only [List.cons_append, List.nil_append, List.append_nil, List.filterMap_cons, List.filterMap_nil, List.getElem?_toArray, List.getElem?_cons_zero, List.getElem?_cons_succ]
  go_wp2_with fail
  refine ⟨rfl, hS2.alloc hS2.size _, partsI_last ?_⟩
  simp only [List.cons_append, List.nil_append, List.append_nil, List.filterMap_cons, List.filterMap_nil, List.getElem?_toArray, List.getElem?_cons_zero, List.getElem?_cons_succ]
  go_wp2_with fail
  refine ⟨rfl, ?_⟩
  go_wp2_with fail
  go_ret
  refine ⟨w2.heap.size, r2, _, rfl, hS2.size, hr2', fun k hk => (own2.lt k hk).1, ⟨Blk.new _ _ _, ?_, hM2.below ((Below.refl _ _).alloc (Nat.le_refl _) _) hr2l⟩, hS2.alloc hS2.size _⟩
  exact own_mono (own2.alloc _) (Nat.zero_le _)
end Go.Proofs.Ytjjjgnaihnknjaa

namespace Go.Proofs.Ytjjjgnaihnknjaa
open Go Go.RowKit

section
variable {ops : Array Oper}

/-- every order from here on has so many steps -/
def treeOk (ops : Array Oper) : Nat → Array Bool → Bool
  | 0, listed => (Region.ready .any ops listed).isEmpty
  | n + 1, listed => !(Region.ready .any ops listed).isEmpty && (Region.ready .any ops listed).all fun i => (ops[i]?).isSome && treeOk ops n (listed.setIfInBounds i true)
/-- the check of the whole region -/
def treeB (ops : Array Oper) (lows : List Tmp) (takes : List Nat) : Bool :=
  decide (takes.length ≤ ops.size) && Region.noSelect ops && (lows.all fun x => ops.all fun o => o.dst != some x) &&
    match takesB .any ops [] lows takes (Array.replicate ops.size false) with
    | some l => treeOk ops (ops.size - takes.length) l
    | none => false
def listedOf (n : Nat) (takes : List Nat) : Array Bool := takes.foldl (fun l i => l.setIfInBounds i true) (Array.replicate n false)
theorem takesB_listed {md : Region.Mode} {Wl : List Nat} {lows : List Tmp} : ∀ (ts : List Nat) (l l2 : Array Bool), takesB md ops Wl lows ts l = some l2 → l2 = ts.foldl (fun l i => l.setIfInBounds i true) l
  | [], l, l2, h => by simp only [takesB, Option.some.injEq] at h; exact h.symm
  | i :: ts, l, l2, h => by
    unfold takesB at h
    split at h
    · exact takesB_listed ts _ l2 h
    · cases h
end
section
variable {P : Program} {ops : Array Oper} {Q : Exit → Act → World → Prop} {B : Nat} {w0 : World} {lows : List Tmp}
/-- S is kept behind every step of the walk that is left -/
def wpTreeS (P : Program) (ops : Array Oper) (Q : Exit → Act → World → Prop) (S : World → Prop) : Nat → Array Bool → Act → World → Prop
  | 0, _, a, w => Strict Q .normal a w
  | n + 1, listed, a, w => ∀ i ∈ Region.ready .any ops listed, wpList P ops (Strict fun _ a' w' => S w' ∧ wpTreeS P ops Q S n (listed.setIfInBounds i true) a' w') ([i].filterMap fun i => ops[i]?) a w
theorem treeS_any {S : World → Prop} : ∀ (n : Nat) (listed : Array Bool) (a : Act) (w : World), treeOk ops n listed = true → wpTreeS P ops Q S n listed a w → wpAnyW P .any ops (Strict Q) S (([] : List Nat).contains ·) n listed a w
  | 0, listed, a, w, hb, h => ⟨by simpa [treeOk] using hb, h⟩
  | n + 1, listed, a, w, hb, h => by
    simp only [treeOk, Bool.and_eq_true, Bool.not_eq_true', List.all_eq_true] at hb
    refine ⟨fun h0 => (by rw [h0] at hb; exact absurd hb.1 (by simp)), fun i hi => ?_⟩
    obtain ⟨h1, h2⟩ := hb.2 i hi
    obtain ⟨o, ho⟩ := Option.isSome_iff_exists.1 h1
    refine wpOp_mono (fun a' w' h' => ?_) (wpOp_strict (wpList_one ho (h i hi)))
    exact ⟨fun _ => h'.2.1, treeS_any n _ a' w' h2 h'.2.2⟩
/-- THE LAW. -/
theorem wp_region_tree {id : Nat} {a : Act} {w : World} (lows : List Tmp) (takes : List Nat) (B : Nat) (hm : P.follows .mixedOrders = true) (hB : treeB ops lows takes = true)
    (hl : Lows lows B w a)
    (h : wpList P ops (Strict fun _ a' w' => wpTreeS P ops Q (Below B w) (ops.size - takes.length) (listedOf ops.size takes) a' w') ((takes ++ []).filterMap fun i => ops[i]?) a w.drew) :
    (Code.region id ops true).wp P Q a w := by
  unfold treeB at hB
  simp only [Bool.and_eq_true, decide_eq_true_eq] at hB
  obtain ⟨⟨⟨hlen, hs⟩, hlow⟩, hrest⟩ := hB
  have hd : ∀ x ∈ lows, ∀ (j : Nat) (o : Oper), ops[j]? = some o → o.dst ≠ some x := fun x hx j o ho => by
    have h1 := List.all_eq_true.1 hlow x hx
    have h2 := Array.all_eq_true_iff_forall_mem.1 h1 o (Array.mem_of_getElem? ho)
    simpa using h2
  split at hrest
  · rename_i l hl2
    have he := takesB_listed takes _ l hl2
    refine Code.wp_mono Strict.imp (wp_region_any hm ?_)
    have e : ops.size = takes.length + (ops.size - takes.length) := by omega
    rw [e]
    refine wpAny_of_W (S := Below B w) (W := (([] : List Nat).contains ·)) _ _ _ _ (takes_step hs hd [] _ _ takes _ l a _ (by rw [← e]; exact hl2) (fun a' w' hl' _ h' => ?_) hl (Below.refl B w).drew h)
    have h2 := h'.2
    unfold listedOf at h2
    rw [← he] at h2
    exact treeS_any _ l a' w' hrest h2
  · cases hrest
theorem treeS_step {S : World → Prop} {n : Nat} {listed : Array Bool} {a : Act} {w : World} (l : List Nat) (hr : (Region.ready .any ops listed == l) = true)
    (h : ∀ i ∈ l, wpList P ops (Strict fun _ a' w' => S w' ∧ wpTreeS P ops Q S n (listed.setIfInBounds i true) a' w') ([i].filterMap fun i => ops[i]?) a w) : wpTreeS P ops Q S (n + 1) listed a w := by
  unfold wpTreeS
  rw [eq_of_beq hr]
  exact h
theorem treeS_one {S : World → Prop} {n : Nat} {listed : Array Bool} {a : Act} {w : World} (i : Nat) (hr : (Region.ready .any ops listed == [i]) = true)
    (h : wpList P ops (Strict fun _ a' w' => S w' ∧ wpTreeS P ops Q S n (listed.setIfInBounds i true) a' w') ([i].filterMap fun i => ops[i]?) a w) : wpTreeS P ops Q S (n + 1) listed a w :=
  treeS_step [i] hr fun j hj => by
    have : j = i := by simpa using hj
    subst this
    exact h
theorem treeS_two {S : World → Prop} {n : Nat} {listed : Array Bool} {a : Act} {w : World} (i j : Nat) (hr : (Region.ready .any ops listed == [i, j]) = true)
    (h : wpList P ops (Strict fun _ a' w' => S w' ∧ wpTreeS P ops Q S n (listed.setIfInBounds i true) a' w') ([i].filterMap fun i => ops[i]?) a w)
    (h2 : wpList P ops (Strict fun _ a' w' => S w' ∧ wpTreeS P ops Q S n (listed.setIfInBounds j true) a' w') ([j].filterMap fun i => ops[i]?) a w) : wpTreeS P ops Q S (n + 1) listed a w :=
  treeS_step [i, j] hr fun k hk => by
    have : k = i ∨ k = j := by simpa using hk
    rcases this with rfl | rfl
    · exact h
    · exact h2
theorem treeS_last {S : World → Prop} {listed : Array Bool} {a : Act} {w : World} (h : Strict Q .normal a w) : wpTreeS P ops Q S 0 listed a w := h
end
end Go.Proofs.Ytjjjgnaihnknjaa

namespace Go.Proofs.Ytjjjgnaihnknjaa
open Go.RowKit
set_option linter.unusedSimpArgs false
set_option linter.unusedVariables false

theorem infoRef : (Try.prog.info? 69).map (fun i => (i.zero, i.size, i.bytes)) = some (some (.agg #[.int .u8 0, .string ⟨#[]⟩]), 2, 24) := by kernel_rfl
theorem sizeRefE : (Try.prog.info? 69).map (·.size) = some 2 := by kernel_rfl
/-- the slice v holds these entries -/
def RefAt (w : World) (v : Value) (E : List (Nat × ByteArray)) : Prop :=
  w.ownsRow 0 69 2 v E.length (entCells E) ∧ ∃ b cap, v = .slice (some ⟨b, 0, none⟩) E.length cap ∧ b < w.heap.size
theorem RefAt.cells {w : World} {b cap : Nat} {E : List (Nat × ByteArray)} (h : RefAt w (.slice (some ⟨b, 0, none⟩) E.length cap) E) (i : Nat) (hi : i < E.length) :
    w.cell? ⟨b, i * 2, none⟩ = some (.int .u8 (((E.getD i (0, ByteArray.empty)).1 : Nat) : Int)) ∧ w.cell? ⟨b, i * 2 + 1, none⟩ = some (.string (E.getD i (0, ByteArray.empty)).2) := by
  obtain ⟨q1, q2⟩ := entCells_at E i hi
  constructor
  · rw [Nat.mul_comm, h.1.cellAt (2 * i) (by omega), q1]
  · rw [Nat.mul_comm, h.1.cellAt (2 * i + 1) (by omega), q2]
theorem RefAt.below {w w' : World} {v : Value} {E : List (Nat × ByteArray)} (h : RefAt w v E) (hb : Below w.heap.size w w') : RefAt w' v E := by
  obtain ⟨h1, b, cap, rfl, hl⟩ := h
  exact ⟨own_block h1 (fun k hk => hb.block k (h1.lt k hk).2), b, cap, rfl, Nat.lt_of_lt_of_le hl hb.size⟩
theorem RefAt.keep {w w' : World} {v : Value} {E : List (Nat × ByteArray)} (h : RefAt w v E) (hs : w.heap.size ≤ w'.heap.size) (hk : ∀ k, v.ownBlock = some k → w'.heap[k]? = w.heap[k]?) : RefAt w' v E := by
  obtain ⟨h1, b, cap, rfl, hl⟩ := h
  exact ⟨own_block h1 hk, b, cap, rfl, Nat.lt_of_lt_of_le hl hs⟩

theorem RefAt.of_own {w : World} {B n : Nat} {v : Value} {xs : List Value} {E : List (Nat × ByteArray)} (h : w.ownsRow B 69 2 v n xs) (hn : n = E.length) (hx : xs = entCells E) (h0 : 0 < n) : RefAt w v E := by
  subst hn hx
  refine ⟨own_mono h (Nat.zero_le _), ?_⟩
  rcases h.2 with ⟨_, h2⟩ | ⟨b, cap, cur, h1, _, h3, _⟩
  · omega
  · exact ⟨b, cap, h1, (Array.getElem?_eq_some_iff.1 h3).1⟩
theorem eq_ref (d : Nat) (a b : Nat × ByteArray) (w : World) : (Op.equalIn (d + 1 + 1) 69 (entV a) (entV b)).run Try.prog w = .ok (decide (a = b)) w := by
  unfold entV
  have h1 : ∀ x y : Int, (Op.equalIn (d + 1) 5 (.int .u8 x) (.int .u8 y)).run Try.prog w = .ok (x == y) w := fun x y => by simp [Op.equalIn, run_underlying Try.underlying5]
  have h2 : ∀ x y : ByteArray, (Op.equalIn (d + 1) 9 (.string x) (.string y)).run Try.prog w = .ok (x == y) w := fun x y => by simp [Op.equalIn, run_underlying Try.underlying9]
  have p1 : ∀ (x : Int) (y : ByteArray), (part 5 #[.int .u8 x, .string y] 0).run Try.prog w = .ok (.int .u8 x) w := fun x y => by simp [part, isAgg, run_underlying Try.underlying5]
  have p2 : ∀ (x : Int) (y : ByteArray), (part 9 #[.int .u8 x, .string y] 1).run Try.prog w = .ok (.string y) w := fun x y => by simp [part, isAgg, run_underlying Try.underlying9]
  rw [Op.equalIn]
  simp only [Sem.run_bind, run_underlying Try.underlying69, Result.andThen_ok]
  simp [Op.eqFields, p1, p2, h1, h2]
  obtain ⟨a1, a2⟩ := a
  obtain ⟨b1, b2⟩ := b
  by_cases ha : a1 = b1
  · subst ha
    by_cases hb : a2 = b2
    · subst hb
      simp [beqB]
    · simp [beqB, hb]
  · have hc : ¬ ((a1 : Int) = (b1 : Int)) := by omega
    simp [ha, hc]
theorem eq_ref2 (a b : Nat × ByteArray) (w : World) : (Op.equalIn 10000 69 (.agg #[.int .u8 ((a.1 : Nat) : Int), .string a.2]) (.agg #[.int .u8 ((b.1 : Nat) : Int), .string b.2])).run Try.prog w = .ok (decide (a = b)) w := eq_ref 9998 a b w

/-- an entry put behind the others, if it is new -/
def putE (E : List (Nat × ByteArray)) (e : Nat × ByteArray) : List (Nat × ByteArray) := if isIn e E then E else E ++ [e]
theorem notIn_all {E : List (Nat × ByteArray)} {e : Nat × ByteArray} (h : ∀ j, j < E.length → E.getD j (0, ByteArray.empty) ≠ e) : isIn e E = false := by
  cases hq : isIn e E with
  | false => rfl
  | true =>
    rw [isIn_mem] at hq
    obtain ⟨j, hj, he⟩ := List.getElem_of_mem hq
    exact absurd (by simp [List.getD, hj, he]) (h j hj)

set_option maxRecDepth 100000 in
set_option maxHeartbeats 4000000 in
theorem refPut_any (tag : Nat) (s : ByteArray) (v : Value) (E : List (Nat × ByteArray)) (hE : E.length ≤ 4000000000000) (w : World) (h : RefAt w v E) :
    Calls Try.prog 34 #[v, .agg #[.int .u8 (tag : Int), .string s]] w fun e w' => ∃ v', e = .returned v' ∧ RefAt w' v' (putE E (tag, s)) ∧ Below w.heap.size w w' := by
  obtain ⟨i0, hi, hz0, hz1, hz2⟩ := info_parts infoRef
  obtain ⟨b, cap, hv, hbl⟩ := h.2
  subst hv
  have e0 : Blk (w.alloc (.cells #[.int .u8 (tag : Int), .string s] 69)) w.heap.size 69 #[.int .u8 (tag : Int), .string s] := Blk.new _ _ _
  have HR : Hid (RefAt w (.slice (some ⟨b, 0, none⟩) E.length cap) E) := h
  have HN : Hid (E.length ≤ 4000000000000) := hE
  clear h
  go_enter Try.func34, Try.ntmps34
  go_wp2_with fail
  go_loopw [5] (fun c wr => ∃ n : Nat, n ≤ E.length ∧ c = .int .i64 (n : Int) ∧ Below w.heap.size w wr ∧ Blk wr w.heap.size 69 #[.int .u8 (tag : Int), .string s] ∧ ∀ j, j < n → E.getD j (0, ByteArray.empty) ≠ (tag, s)) (fun c _ => E.length + 1 - (intOf c).toNat)
  case atStart =>
    exact ⟨0, Nat.zero_le _, rfl, (Below.refl _ _).alloc (Nat.le_refl _) _, e0, fun j hj => absurd hj (by omega)⟩
  case round =>
    obtain ⟨n, hn, rfl, hbel, hbox, hall⟩ := hrel
    clear e0
    have hR := HR.out.below hbel
    by_cases hi2 : n < E.length
    · obtain ⟨d0, d1⟩ := hR.cells n hi2
      have t0 : (n : Int) < (E.length : Int) := by omega
      have j0 : (0 : Int) ≤ (n : Int) := by omega
      have hq := eq_ref2 (E.getD n (0, ByteArray.empty)) (tag, s)
      by_cases he : E.getD n (0, ByteArray.empty) = (tag, s)
      · have hin : isIn (tag, s) E = true := by rw [← he]; exact isIn_at E n hi2
        rw [decide_eq_true he] at hq
        generalize E.getD n (0, ByteArray.empty) = x at *
        go_wp2_with fail
        refine wp_region_partsI [3] [([0, 1, 2, 4], 3, false), ([], 5, false)] [] [] wr.heap.size (by kernel_rfl) (by kernel_rfl) (lows_one ⟨⟨w.heap.size, 0, none⟩, _, _, _, rfl, hbox.lt, hbox⟩) (partsI_force ?_)
        simp only [List.cons_append, List.nil_append, List.append_nil, List.filterMap_cons, List.filterMap_nil, List.getElem?_toArray, List.getElem?_cons_zero, List.getElem?_cons_succ]
        have c0 : wr.cell? ⟨w.heap.size, 0, none⟩ = some (.int .u8 (tag : Int)) := by rw [hbox.cell]; rfl
        have c1 : wr.cell? ⟨w.heap.size, 1, none⟩ = some (.string s) := by rw [hbox.cell]; rfl
        go_wp2_with fail
        refine ⟨rfl, (Below.refl _ _).drew, partsI_force ?_⟩
        simp only [List.cons_append, List.nil_append, List.append_nil, List.filterMap_cons, List.filterMap_nil, List.getElem?_toArray, List.getElem?_cons_zero, List.getElem?_cons_succ]
        go_wp2_with fail
        refine ⟨rfl, (Below.refl _ _).drew, partsI_last ?_⟩
        simp only [List.cons_append, List.nil_append, List.append_nil, List.filterMap_cons, List.filterMap_nil, List.getElem?_toArray, List.getElem?_cons_zero, List.getElem?_cons_succ]
        go_wp2_with fail
        refine ⟨rfl, ?_⟩
        go_wp2_with fail
        go_ret
        refine ⟨_, rfl, ?_, hbel.drew⟩
        unfold putE
        rw [if_pos hin]
        exact hR
      · rw [decide_eq_false he] at hq
        have hall2 : ∀ j, j < n + 1 → E.getD j (0, ByteArray.empty) ≠ (tag, s) := fun j hj => by
          by_cases hjn : j = n
          · subst hjn; exact he
          · exact hall j (by omega)
        have HALL : Hid (∀ j, j < n + 1 → E.getD j (0, ByteArray.empty) ≠ (tag, s)) := hall2
        clear hall hall2
        generalize E.getD n (0, ByteArray.empty) = x at *
        go_wp2_with fail
        refine wp_region_partsI [3] [([0, 1, 2, 4], 3, false), ([], 5, false)] [] [] wr.heap.size (by kernel_rfl) (by kernel_rfl) (lows_one ⟨⟨w.heap.size, 0, none⟩, _, _, _, rfl, hbox.lt, hbox⟩) (partsI_force ?_)
        simp only [List.cons_append, List.nil_append, List.append_nil, List.filterMap_cons, List.filterMap_nil, List.getElem?_toArray, List.getElem?_cons_zero, List.getElem?_cons_succ]
        have c0 : wr.cell? ⟨w.heap.size, 0, none⟩ = some (.int .u8 (tag : Int)) := by rw [hbox.cell]; rfl
        have c1 : wr.cell? ⟨w.heap.size, 1, none⟩ = some (.string s) := by rw [hbox.cell]; rfl
        go_wp2_with fail
        refine ⟨rfl, (Below.refl _ _).drew, partsI_force ?_⟩
        simp only [List.cons_append, List.nil_append, List.append_nil, List.filterMap_cons, List.filterMap_nil, List.getElem?_toArray, List.getElem?_cons_zero, List.getElem?_cons_succ]
        go_wp2_with fail
        refine ⟨rfl, (Below.refl _ _).drew, partsI_last ?_⟩
        simp only [List.cons_append, List.nil_append, List.append_nil, List.filterMap_cons, List.filterMap_nil, List.getElem?_toArray, List.getElem?_cons_zero, List.getElem?_cons_succ]
        go_wp2_with fail
        refine ⟨rfl, ?_⟩
        go_wp2_with fail
        refine ⟨⟨n + 1, by omega, by simp, hbel.drew, hbox.drew, HALL.out⟩, ?_⟩
        simp [intOf]
        omega
    · have t0 : ¬ (n : Int) < (E.length : Int) := by omega
      obtain rfl : n = E.length := by omega
      have hno := notIn_all hall
      have hput : putE E (tag, s) = E ++ [(tag, s)] := by unfold putE; rw [hno]; rfl
      have HPUT : Hid (putE E (tag, s) = E ++ [(tag, s)]) := hput
      clear hall hput hno
      have hone := entCells_one E
      have HONE : Hid (∀ u ∈ [Value.int .u8 (tag : Int), .string s], u.oneCell' = true) := fun u hu => by
        simp at hu
        rcases hu with rfl | rfl <;> rfl
      go_wp2_with fail
      refine wp_region_tree [3] [1, 3] wr.heap.size (by kernel_rfl) (by kernel_rfl) (lows_one ⟨⟨w.heap.size, 0, none⟩, _, _, _, rfl, hbox.lt, hbox⟩) ?_
      simp only [List.cons_append, List.nil_append, List.append_nil, List.filterMap_cons, List.filterMap_nil, List.getElem?_toArray, List.getElem?_cons_zero, List.getElem?_cons_succ]
      have c0 : wr.cell? ⟨w.heap.size, 0, none⟩ = some (.int .u8 (tag : Int)) := by rw [hbox.cell]; rfl
      have c1 : wr.cell? ⟨w.heap.size, 1, none⟩ = some (.string s) := by rw [hbox.cell]; rfl
      go_wp2_with fail
      refine ⟨rfl, treeS_two 0 4 (by kernel_rfl) ?_ ?_⟩
      · simp only [List.cons_append, List.nil_append, List.append_nil, List.filterMap_cons, List.filterMap_nil, List.getElem?_toArray, List.getElem?_cons_zero, List.getElem?_cons_succ]
        go_wp2_with fail
        have b1 : Below wr.heap.size wr (wr.alloc (.cells #[] 69)).drew := ((Below.refl _ _).alloc (Nat.le_refl _) _).drew
        have HO : Hid ((wr.alloc (.cells #[] 69)).drew.ownsRow wr.heap.size 69 2 (.slice (some ⟨wr.heap.size, 0, none⟩) 0 0) 0 []) := World.ownsRow_lit wr #[] 0 (Nat.le_refl _) (by decide) rfl
        have HC1 : Hid (∀ j u, (entCells E)[j]? = some u → (wr.alloc (.cells #[] 69)).drew.cell? ((⟨b, 0, none⟩ : Addr).add j) = some u) := (hR.1.alloc _).cells rfl
        have s1 : (wr.alloc (.cells #[] 69)).drew.heap.size = wr.heap.size + 1 := by simp
        generalize (wr.alloc (.cells #[] 69)).drew = w1 at *
        refine ⟨rfl, b1, treeS_two 2 4 (by kernel_rfl) ?_ ?_⟩
        · simp only [List.cons_append, List.nil_append, List.append_nil, List.filterMap_cons, List.filterMap_nil, List.getElem?_toArray, List.getElem?_cons_zero, List.getElem?_cons_succ]
          refine wpList_append_own _ rfl _ _ 64 rfl wr.heap.size 69 i0 _ 2 24 Try.underlying64 hi hz0 hz1 hz2 rfl (by decide) (.slice (some ⟨wr.heap.size, 0, none⟩) 0 0) 0 _ rfl HO.out ⟨b, 0, none⟩ E.length cap (entCells E) rfl hR.1.1 HC1.out hone (by unfold maxLen; omega) (by omega) (by omega) ?_
          intro v2 w2 own2 grow2 _
          have b2 : Below wr.heap.size wr w2 := b1.grown grow2 (by omega) (fun k hk => (HO.out.lt k hk).1)
          go_wp2_with fail
          refine ⟨rfl, b2, treeS_one 4 (by kernel_rfl) ?_⟩
          simp only [List.cons_append, List.nil_append, List.append_nil, List.filterMap_cons, List.filterMap_nil, List.getElem?_toArray, List.getElem?_cons_zero, List.getElem?_cons_succ]
          go_wp2_with fail
          have b3 : Below wr.heap.size wr (w2.alloc (.cells #[.int .u8 (tag : Int), .string s] 69)) := b2.alloc b2.size _
          have OWN3 : Hid ((w2.alloc (.cells #[.int .u8 (tag : Int), .string s] 69)).ownsRow wr.heap.size 69 2 v2 (0 + E.length) ([] ++ entCells E)) := own2.alloc _
          have HX3 : Hid (∀ j u, [Value.int .u8 (tag : Int), .string s][j]? = some u → (w2.alloc (.cells #[.int .u8 (tag : Int), .string s] 69)).cell? ((⟨w2.heap.size, 0, none⟩ : Addr).add j) = some u) := cell_two_new w2 _ _ _
          have s3 : (w2.alloc (.cells #[.int .u8 (tag : Int), .string s] 69)).heap.size = w2.heap.size + 1 := by simp
          have s2 := b2.size
          generalize w2.alloc (.cells #[.int .u8 (tag : Int), .string s] 69) = w3 at *
          refine ⟨rfl, b3, treeS_one 5 (by kernel_rfl) ?_⟩
          simp only [List.cons_append, List.nil_append, List.append_nil, List.filterMap_cons, List.filterMap_nil, List.getElem?_toArray, List.getElem?_cons_zero, List.getElem?_cons_succ]
          refine wpList_append_own _ rfl _ _ 64 rfl wr.heap.size 69 i0 _ 2 24 Try.underlying64 hi hz0 hz1 hz2 rfl (by decide) v2 (0 + E.length) _ rfl OWN3.out ⟨w2.heap.size, 0, none⟩ 1 1 [.int .u8 (tag : Int), .string s] rfl rfl HX3.out HONE.out (by unfold maxLen; omega) (by omega) (by omega) ?_
          intro v4 w4 own4 grow4 _
          have b4 : Below wr.heap.size wr w4 := b3.grown grow4 (by omega) (fun k hk => (OWN3.out.lt k hk).1)
          go_wp2_with fail
          refine ⟨rfl, b4, treeS_one 6 (by kernel_rfl) ?_⟩
          simp only [List.cons_append, List.nil_append, List.append_nil, List.filterMap_cons, List.filterMap_nil, List.getElem?_toArray, List.getElem?_cons_zero, List.getElem?_cons_succ]
          go_wp2_with fail
          refine ⟨rfl, b4, treeS_last ⟨rfl, ?_⟩⟩
          go_wp2_with fail
          go_ret
          refine ⟨v4, rfl, ?_, hbel.trans (b4.mono hbel.size)⟩
          rw [HPUT.out]
          exact RefAt.of_own own4 (by simp) (by simp [entCells]) (by omega)
        · simp only [List.cons_append, List.nil_append, List.append_nil, List.filterMap_cons, List.filterMap_nil, List.getElem?_toArray, List.getElem?_cons_zero, List.getElem?_cons_succ]
          go_wp2_with fail
          have b2 : Below wr.heap.size wr (w1.alloc (.cells #[.int .u8 (tag : Int), .string s] 69)) := b1.alloc b1.size _
          have HO2 : Hid ((w1.alloc (.cells #[.int .u8 (tag : Int), .string s] 69)).ownsRow wr.heap.size 69 2 (.slice (some ⟨wr.heap.size, 0, none⟩) 0 0) 0 []) := HO.out.alloc _
          have HC2 : Hid (∀ j u, (entCells E)[j]? = some u → (w1.alloc (.cells #[.int .u8 (tag : Int), .string s] 69)).cell? ((⟨b, 0, none⟩ : Addr).add j) = some u) := fun j u hu => cell_later ((Below.refl _ _).alloc (Nat.le_refl _) _) (HC1.out j u hu)
          have HX2 : Hid (∀ j u, [Value.int .u8 (tag : Int), .string s][j]? = some u → (w1.alloc (.cells #[.int .u8 (tag : Int), .string s] 69)).cell? ((⟨wr.heap.size + 1, 0, none⟩ : Addr).add j) = some u) := by rw [← s1]; exact cell_two_new w1 _ _ _
          have s2 : (w1.alloc (.cells #[.int .u8 (tag : Int), .string s] 69)).heap.size = wr.heap.size + 2 := by simp; omega
          generalize w1.alloc (.cells #[.int .u8 (tag : Int), .string s] 69) = w1' at *
          refine ⟨rfl, b2, treeS_one 2 (by kernel_rfl) ?_⟩
          simp only [List.cons_append, List.nil_append, List.append_nil, List.filterMap_cons, List.filterMap_nil, List.getElem?_toArray, List.getElem?_cons_zero, List.getElem?_cons_succ]
          refine wpList_append_own _ rfl _ _ 64 rfl wr.heap.size 69 i0 _ 2 24 Try.underlying64 hi hz0 hz1 hz2 rfl (by decide) (.slice (some ⟨wr.heap.size, 0, none⟩) 0 0) 0 _ rfl HO2.out ⟨b, 0, none⟩ E.length cap (entCells E) rfl hR.1.1 HC2.out hone (by unfold maxLen; omega) (by omega) (by omega) ?_
          intro v2 w2 own2 grow2 _
          have b3 : Below wr.heap.size wr w2 := b2.grown grow2 (by omega) (fun k hk => (HO2.out.lt k hk).1)
          have OWN3 : Hid (w2.ownsRow wr.heap.size 69 2 v2 (0 + E.length) ([] ++ entCells E)) := own2
          have HX3 : Hid (∀ j u, [Value.int .u8 (tag : Int), .string s][j]? = some u → w2.cell? ((⟨wr.heap.size + 1, 0, none⟩ : Addr).add j) = some u) := fun j u hu => by have q := HX2.out j u hu; rw [Addr.add_mid] at q ⊢; rw [World.cell?_of_block (w := w1') (grow2.block (wr.heap.size + 1) (by omega) (by simp [Value.ownBlock]))]; exact q
          have s3 := b3.size
          go_wp2_with fail
          refine ⟨rfl, b3, treeS_one 5 (by kernel_rfl) ?_⟩
          simp only [List.cons_append, List.nil_append, List.append_nil, List.filterMap_cons, List.filterMap_nil, List.getElem?_toArray, List.getElem?_cons_zero, List.getElem?_cons_succ]
          refine wpList_append_own _ rfl _ _ 64 rfl wr.heap.size 69 i0 _ 2 24 Try.underlying64 hi hz0 hz1 hz2 rfl (by decide) v2 (0 + E.length) _ rfl OWN3.out ⟨(wr.heap.size + 1), 0, none⟩ 1 1 [.int .u8 (tag : Int), .string s] rfl rfl HX3.out HONE.out (by unfold maxLen; omega) (by omega) (by omega) ?_
          intro v4 w4 own4 grow4 _
          have b4 : Below wr.heap.size wr w4 := b3.grown grow4 (by omega) (fun k hk => (OWN3.out.lt k hk).1)
          go_wp2_with fail
          refine ⟨rfl, b4, treeS_one 6 (by kernel_rfl) ?_⟩
          simp only [List.cons_append, List.nil_append, List.append_nil, List.filterMap_cons, List.filterMap_nil, List.getElem?_toArray, List.getElem?_cons_zero, List.getElem?_cons_succ]
          go_wp2_with fail
          refine ⟨rfl, b4, treeS_last ⟨rfl, ?_⟩⟩
          go_wp2_with fail
          go_ret
          refine ⟨v4, rfl, ?_, hbel.trans (b4.mono hbel.size)⟩
          rw [HPUT.out]
          exact RefAt.of_own own4 (by simp) (by simp [entCells]) (by omega)
      · simp only [List.cons_append, List.nil_append, List.append_nil, List.filterMap_cons, List.filterMap_nil, List.getElem?_toArray, List.getElem?_cons_zero, List.getElem?_cons_succ]
        go_wp2_with fail
        have b1 : Below wr.heap.size wr (wr.alloc (.cells #[.int .u8 (tag : Int), .string s] 69)).drew := ((Below.refl _ _).alloc (Nat.le_refl _) _).drew
        have HX1 : Hid (∀ j u, [Value.int .u8 (tag : Int), .string s][j]? = some u → (wr.alloc (.cells #[.int .u8 (tag : Int), .string s] 69)).drew.cell? ((⟨wr.heap.size, 0, none⟩ : Addr).add j) = some u) := cell_two_new wr _ _ _
        have HC1 : Hid (∀ j u, (entCells E)[j]? = some u → (wr.alloc (.cells #[.int .u8 (tag : Int), .string s] 69)).drew.cell? ((⟨b, 0, none⟩ : Addr).add j) = some u) := (hR.1.alloc _).cells rfl
        have s1 : (wr.alloc (.cells #[.int .u8 (tag : Int), .string s] 69)).drew.heap.size = wr.heap.size + 1 := by simp
        generalize (wr.alloc (.cells #[.int .u8 (tag : Int), .string s] 69)).drew = w1 at *
        refine ⟨rfl, b1, treeS_one 0 (by kernel_rfl) ?_⟩
        simp only [List.cons_append, List.nil_append, List.append_nil, List.filterMap_cons, List.filterMap_nil, List.getElem?_toArray, List.getElem?_cons_zero, List.getElem?_cons_succ]
        go_wp2_with fail
        have b2 : Below wr.heap.size wr (w1.alloc (.cells #[] 69)) := b1.alloc b1.size _
        have HO2 : Hid ((w1.alloc (.cells #[] 69)).ownsRow wr.heap.size 69 2 (.slice (some ⟨wr.heap.size + 1, 0, none⟩) 0 0) 0 []) := by rw [← s1]; exact World.ownsRow_lit w1 #[] 0 (by omega) (by decide) rfl
        have HC2 : Hid (∀ j u, (entCells E)[j]? = some u → (w1.alloc (.cells #[] 69)).cell? ((⟨b, 0, none⟩ : Addr).add j) = some u) := fun j u hu => cell_later ((Below.refl _ _).alloc (Nat.le_refl _) _) (HC1.out j u hu)
        have HX2 : Hid (∀ j u, [Value.int .u8 (tag : Int), .string s][j]? = some u → (w1.alloc (.cells #[] 69)).cell? ((⟨wr.heap.size, 0, none⟩ : Addr).add j) = some u) := fun j u hu => cell_later ((Below.refl _ _).alloc (Nat.le_refl _) _) (HX1.out j u hu)
        have s2 : (w1.alloc (.cells #[] 69)).heap.size = wr.heap.size + 2 := by simp; omega
        generalize w1.alloc (.cells #[] 69) = w1' at *
        refine ⟨rfl, b2, treeS_one 2 (by kernel_rfl) ?_⟩
        simp only [List.cons_append, List.nil_append, List.append_nil, List.filterMap_cons, List.filterMap_nil, List.getElem?_toArray, List.getElem?_cons_zero, List.getElem?_cons_succ]
        refine wpList_append_own _ rfl _ _ 64 rfl wr.heap.size 69 i0 _ 2 24 Try.underlying64 hi hz0 hz1 hz2 rfl (by decide) (.slice (some ⟨wr.heap.size + 1, 0, none⟩) 0 0) 0 _ rfl HO2.out ⟨b, 0, none⟩ E.length cap (entCells E) rfl hR.1.1 HC2.out hone (by unfold maxLen; omega) (by omega) (by omega) ?_
        intro v2 w2 own2 grow2 _
        have b3 : Below wr.heap.size wr w2 := b2.grown grow2 (by omega) (fun k hk => (HO2.out.lt k hk).1)
        have OWN3 : Hid (w2.ownsRow wr.heap.size 69 2 v2 (0 + E.length) ([] ++ entCells E)) := own2
        have HX3 : Hid (∀ j u, [Value.int .u8 (tag : Int), .string s][j]? = some u → w2.cell? ((⟨wr.heap.size, 0, none⟩ : Addr).add j) = some u) := fun j u hu => by have q := HX2.out j u hu; rw [Addr.add_mid] at q ⊢; rw [World.cell?_of_block (w := w1') (grow2.block wr.heap.size (by omega) (by simp [Value.ownBlock]))]; exact q
        have s3 := b3.size
        go_wp2_with fail
        refine ⟨rfl, b3, treeS_one 5 (by kernel_rfl) ?_⟩
        simp only [List.cons_append, List.nil_append, List.append_nil, List.filterMap_cons, List.filterMap_nil, List.getElem?_toArray, List.getElem?_cons_zero, List.getElem?_cons_succ]
        refine wpList_append_own _ rfl _ _ 64 rfl wr.heap.size 69 i0 _ 2 24 Try.underlying64 hi hz0 hz1 hz2 rfl (by decide) v2 (0 + E.length) _ rfl OWN3.out ⟨wr.heap.size, 0, none⟩ 1 1 [.int .u8 (tag : Int), .string s] rfl rfl HX3.out HONE.out (by unfold maxLen; omega) (by omega) (by omega) ?_
        intro v4 w4 own4 grow4 _
        have b4 : Below wr.heap.size wr w4 := b3.grown grow4 (by omega) (fun k hk => (OWN3.out.lt k hk).1)
        go_wp2_with fail
        refine ⟨rfl, b4, treeS_one 6 (by kernel_rfl) ?_⟩
        simp only [List.cons_append, List.nil_append, List.append_nil, List.filterMap_cons, List.filterMap_nil, List.getElem?_toArray, List.getElem?_cons_zero, List.getElem?_cons_succ]
        go_wp2_with fail
        refine ⟨rfl, b4, treeS_last ⟨rfl, ?_⟩⟩
        go_wp2_with fail
        go_ret
        refine ⟨v4, rfl, ?_, hbel.trans (b4.mono hbel.size)⟩
        rw [HPUT.out]
        exact RefAt.of_own own4 (by simp) (by simp [entCells]) (by omega)
end Go.Proofs.Ytjjjgnaihnknjaa
