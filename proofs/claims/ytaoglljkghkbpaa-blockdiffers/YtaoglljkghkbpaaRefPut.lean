/- An entry put into a list of entries, by the document: its contract. -/
import Derived.Test.YtaoglljkghkbpaaLogOf
import Derived.Shelf.SlMaps.Clone
import Derived.Handy
import Derived.Test.YtaoglljkghkbpaaSegs
import Derived.Test.YtaoglljkghkbpaaLogColl

namespace Go.Proofs.Ytaoglljkghkbpaa
open Go.RowKit
set_option linter.unusedSimpArgs false
set_option linter.unusedVariables false

theorem eq_slice_nil (d : Nat) (p : Option Addr) (n cap : Nat) (w : World) : (Op.equalIn (d + 1) 89 (.slice p n cap) (.slice none 0 0)).run Try.prog w = .ok p.isNone w := by
  cases p <;> simp [Op.equalIn, run_underlying Try.underlying89]
theorem slice_nil (p : Option Addr) (n cap : Nat) (w : World) : Sem.run Try.prog (binOp .eql 89 (.slice p n cap) (.slice none 0 0)) w = .ok (.bool p.isNone) w := by
  simp only [binOp]
  simp [show Op.equal 89 (.slice p n cap) (.slice none 0 0) = Op.equalIn (9999 + 1) 89 (.slice p n cap) (.slice none 0 0) from rfl, eq_slice_nil 9999 p n cap w]
theorem entCells_one (E : List (Nat × ByteArray)) : ∀ u ∈ entCells E, u.oneCell' = true := fun u hu => by
  unfold entCells at hu
  obtain ⟨e, _, he⟩ := List.mem_flatMap.1 hu
  simp at he
  rcases he with rfl | rfl <;> rfl
end Go.Proofs.Ytaoglljkghkbpaa

namespace Go.Proofs.Ytaoglljkghkbpaa
open Go Go.RowKit

section
variable {ops : Array Oper}

/-- every order from here on has so many steps -/
def treeOk (ops : Array Oper) : Nat → Array Bool → Bool
  | 0, listed => (Region.ready .any ops listed).isEmpty
  | n + 1, listed => !(Region.ready .any ops listed).isEmpty && (Region.ready .any ops listed).all fun i => (ops[i]?).isSome && treeOk ops n (listed.setIfInBounds i true)
/-- the check of the whole region -/
def treeB (ops : Array Oper) (lows : List Tmp) (takes : List Nat) : Bool :=
  decide (takes.length ≤ ops.size) && Region.noSelect ops && (lows.all fun x => ops.all fun o => o.dst != some x) &&
    match takesB .any ops [] lows takes (Array.replicate ops.size false) with
    | some l => treeOk ops (ops.size - takes.length) l
    | none => false
def listedOf (n : Nat) (takes : List Nat) : Array Bool := takes.foldl (fun l i => l.setIfInBounds i true) (Array.replicate n false)
theorem takesB_listed {md : Region.Mode} {Wl : List Nat} {lows : List Tmp} : ∀ (ts : List Nat) (l l2 : Array Bool), takesB md ops Wl lows ts l = some l2 → l2 = ts.foldl (fun l i => l.setIfInBounds i true) l
  | [], l, l2, h => by simp only [takesB, Option.some.injEq] at h; exact h.symm
  | i :: ts, l, l2, h => by
    unfold takesB at h
    split at h
    · exact takesB_listed ts _ l2 h
    · cases h
end
section
variable {P : Program} {ops : Array Oper} {Q : Exit → Act → World → Prop} {B : Nat} {w0 : World} {lows : List Tmp}
/-- S is kept behind every step of the walk that is left -/
def wpTreeS (P : Program) (ops : Array Oper) (Q : Exit → Act → World → Prop) (S : World → Prop) : Nat → Array Bool → Act → World → Prop
  | 0, _, a, w => Strict Q .normal a w
  | n + 1, listed, a, w => ∀ i ∈ Region.ready .any ops listed, wpList P ops (Strict fun _ a' w' => S w' ∧ wpTreeS P ops Q S n (listed.setIfInBounds i true) a' w') ([i].filterMap fun i => ops[i]?) a w
theorem treeS_any {S : World → Prop} : ∀ (n : Nat) (listed : Array Bool) (a : Act) (w : World), treeOk ops n listed = true → wpTreeS P ops Q S n listed a w → wpAnyW P .any ops (Strict Q) S (([] : List Nat).contains ·) n listed a w
  | 0, listed, a, w, hb, h => ⟨by simpa [treeOk] using hb, h⟩
  | n + 1, listed, a, w, hb, h => by
    simp only [treeOk, Bool.and_eq_true, Bool.not_eq_true', List.all_eq_true] at hb
    refine ⟨fun h0 => (by rw [h0] at hb; exact absurd hb.1 (by simp)), fun i hi => ?_⟩
    obtain ⟨h1, h2⟩ := hb.2 i hi
    obtain ⟨o, ho⟩ := Option.isSome_iff_exists.1 h1
    refine wpOp_mono (fun a' w' h' => ?_) (wpOp_strict (wpList_one ho (h i hi)))
    exact ⟨fun _ => h'.2.1, treeS_any n _ a' w' h2 h'.2.2⟩
/-- THE LAW. -/
theorem wp_region_tree {id : Nat} {a : Act} {w : World} (lows : List Tmp) (takes : List Nat) (B : Nat) (hm : P.follows .mixedOrders = true) (hB : treeB ops lows takes = true)
    (hl : Lows lows B w a)
    (h : wpList P ops (Strict fun _ a' w' => wpTreeS P ops Q (Below B w) (ops.size - takes.length) (listedOf ops.size takes) a' w') ((takes ++ []).filterMap fun i => ops[i]?) a w.drew) :
    (Code.region id ops true).wp P Q a w := by
  unfold treeB at hB
  simp only [Bool.and_eq_true, decide_eq_true_eq] at hB
  obtain ⟨⟨⟨hlen, hs⟩, hlow⟩, hrest⟩ := hB
  have hd : ∀ x ∈ lows, ∀ (j : Nat) (o : Oper), ops[j]? = some o → o.dst ≠ some x := fun x hx j o ho => by
    have h1 := List.all_eq_true.1 hlow x hx
    have h2 := Array.all_eq_true_iff_forall_mem.1 h1 o (Array.mem_of_getElem? ho)
    simpa using h2
  split at hrest
  · rename_i l hl2
    have he := takesB_listed takes _ l hl2
    refine Code.wp_mono Strict.imp (wp_region_any hm ?_)
    have e : ops.size = takes.length + (ops.size - takes.length) := by omega
    rw [e]
    refine wpAny_of_W (S := Below B w) (W := (([] : List Nat).contains ·)) _ _ _ _ (takes_step hs hd [] _ _ takes _ l a _ (by rw [← e]; exact hl2) (fun a' w' hl' _ h' => ?_) hl (Below.refl B w).drew h)
    have h2 := h'.2
    unfold listedOf at h2
    rw [← he] at h2
    exact treeS_any _ l a' w' hrest h2
  · cases hrest
theorem treeS_step {S : World → Prop} {n : Nat} {listed : Array Bool} {a : Act} {w : World} (l : List Nat) (hr : (Region.ready .any ops listed == l) = true)
    (h : ∀ i ∈ l, wpList P ops (Strict fun _ a' w' => S w' ∧ wpTreeS P ops Q S n (listed.setIfInBounds i true) a' w') ([i].filterMap fun i => ops[i]?) a w) : wpTreeS P ops Q S (n + 1) listed a w := by
  unfold wpTreeS
  rw [eq_of_beq hr]
  exact h
theorem treeS_one {S : World → Prop} {n : Nat} {listed : Array Bool} {a : Act} {w : World} (i : Nat) (hr : (Region.ready .any ops listed == [i]) = true)
    (h : wpList P ops (Strict fun _ a' w' => S w' ∧ wpTreeS P ops Q S n (listed.setIfInBounds i true) a' w') ([i].filterMap fun i => ops[i]?) a w) : wpTreeS P ops Q S (n + 1) listed a w :=
  treeS_step [i] hr fun j hj => by
    have : j = i := by simpa using hj
    subst this
    exact h
theorem treeS_two {S : World → Prop} {n : Nat} {listed : Array Bool} {a : Act} {w : World} (i j : Nat) (hr : (Region.ready .any ops listed == [i, j]) = true)
    (h : wpList P ops (Strict fun _ a' w' => S w' ∧ wpTreeS P ops Q S n (listed.setIfInBounds i true) a' w') ([i].filterMap fun i => ops[i]?) a w)
    (h2 : wpList P ops (Strict fun _ a' w' => S w' ∧ wpTreeS P ops Q S n (listed.setIfInBounds j true) a' w') ([j].filterMap fun i => ops[i]?) a w) : wpTreeS P ops Q S (n + 1) listed a w :=
  treeS_step [i, j] hr fun k hk => by
    have : k = i ∨ k = j := by simpa using hk
    rcases this with rfl | rfl
    · exact h
    · exact h2
theorem treeS_last {S : World → Prop} {listed : Array Bool} {a : Act} {w : World} (h : Strict Q .normal a w) : wpTreeS P ops Q S 0 listed a w := h
end
end Go.Proofs.Ytaoglljkghkbpaa

namespace Go.Proofs.Ytaoglljkghkbpaa
open Go.RowKit
set_option linter.unusedSimpArgs false
set_option linter.unusedVariables false

/-- an entry put behind the others, if it is new -/
def putE (E : List (Nat × ByteArray)) (e : Nat × ByteArray) : List (Nat × ByteArray) := if isIn e E then E else E ++ [e]
theorem notIn_all {E : List (Nat × ByteArray)} {e : Nat × ByteArray} (h : ∀ j, j < E.length → E.getD j (0, ByteArray.empty) ≠ e) : isIn e E = false := by
  cases hq : isIn e E with
  | false => rfl
  | true =>
    rw [isIn_mem] at hq
    obtain ⟨j, hj, he⟩ := List.getElem_of_mem hq
    exact absurd (by simp [List.getD, hj, he]) (h j hj)

end Go.Proofs.Ytaoglljkghkbpaa
