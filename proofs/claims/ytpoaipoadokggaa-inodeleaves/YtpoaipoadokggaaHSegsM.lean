/- A region that draws its order, as a machine: operations that are shown to yield are taken ahead; then whatever is ready may come next: a relation over what has been done so far (a list of bools) says enough for each next step. No program in it. -/
import Derived.Test.YtpoaipoadokggaaHIoKit

namespace Go.Proofs.Ytpoaipoadokggaa
open Go Go.RowKit

/-- the plan of a region's walk -/
inductive Plan where
  | fin (takes : List Nat)
  | force (ts : List Nat) (i : Nat) (next : Plan)
  | yield (ts : List Nat) (i : Nat) (next : Plan)
  | fork (i j : Nat) (p q : Plan)
def Plan.len : Plan → Nat
  | .fin takes => takes.length
  | .force ts _ p => ts.length + (1 + p.len)
  | .yield ts _ p => ts.length + (1 + p.len)
  | .fork _ _ p _ => p.len + 1
/-- the check -/
def Plan.ok (ops : Array Oper) : Plan → Array Bool → Bool
  | .fin takes, listed => match takesB .any ops [] [] takes listed with
    | some l => (Region.ready .any ops l).isEmpty
    | none => false
  | .force ts i p, listed => match takesB .any ops [] [] ts listed with
    | some l => forceW .any ops l i && p.ok ops (l.setIfInBounds i true)
    | none => false
  | .yield ts i p, listed => match takesB .any ops [] [] ts listed with
    | some l => yieldW .any ops l [] i && p.ok ops (l.setIfInBounds i true)
    | none => false
  | .fork i j p q, listed => Region.ready .any ops listed == [i, j] && (ops[i]?).isSome && (ops[j]?).isSome && p.len == q.len && p.ok ops (listed.setIfInBounds i true) && q.ok ops (listed.setIfInBounds j true)
section
variable {P : Program} {ops : Array Oper} {Q : Exit → Act → World → Prop} {S : World → Prop}
end
end Go.Proofs.Ytpoaipoadokggaa

namespace Go.Proofs.Ytpoaipoadokggaa
open Go Go.RowKit
section
variable {P : Program} {ops : Array Oper} {Q : Exit → Act → World → Prop} {S : World → Prop}
/-- every order from here on: each operation that is ready may come next (pre) -/
def machB (ops : Array Oper) (pre : Nat → Array Bool → Bool) (fin : Array Bool → Bool) : Nat → Array Bool → Bool
  | 0, l => (Region.ready .any ops l).isEmpty && fin l
  | f + 1, l => !(Region.ready .any ops l).isEmpty && (Region.ready .any ops l).all fun i => pre i l && (ops[i]?).isSome && machB ops pre fin f (l.setIfInBounds i true)
/-- the operations that are taken ahead, then the machine: the check -/
def yieldsB (ops : Array Oper) (pre : Nat → Array Bool → Bool) (fin : Array Bool → Bool) : List Nat → Nat → Array Bool → Bool
  | [], f, l => machB ops pre fin f l
  | i :: ys, f, l => yieldW .any ops l [] i && yieldsB ops pre fin ys f (l.setIfInBounds i true)
/-- .. and the walk -/
def wpYields (P : Program) (ops : Array Oper) (S : World → Prop) (K : Array Bool → Act → Prop) : List Nat → Array Bool → Act → Prop
  | [], l, a => K l a
  | i :: ys, l, a => ∃ o v, ops[i]? = some o ∧ YieldsIf P ops S o v a ∧ wpYields P ops S K ys (l.setIfInBounds i true) (a.put o.dst v)
theorem mach_step {pre : Nat → Array Bool → Bool} {fin : Array Bool → Bool} {R : Array Bool → Act → World → Prop}
    (hstep : ∀ i l a w, pre i l = true → R l a w → wpList P ops (Strict fun _ a' w' => S w' ∧ R (l.setIfInBounds i true) a' w') ([i].filterMap fun i => ops[i]?) a w)
    (hend : ∀ l a w, fin l = true → R l a w → Strict Q .normal a w) :
    ∀ (fuel : Nat) (l : Array Bool) (a : Act) (w : World), machB ops pre fin fuel l = true → R l a w → wpAnyW P .any ops (Strict Q) S (([] : List Nat).contains ·) fuel l a w
  | 0, l, a, w, hg, hR => by
    simp only [machB, Bool.and_eq_true, List.isEmpty_iff] at hg
    exact ⟨hg.1, hend l a w hg.2 hR⟩
  | fuel + 1, l, a, w, hg, hR => by
    unfold machB at hg
    simp only [Bool.and_eq_true, Bool.not_eq_true'] at hg
    refine ⟨fun h => (by rw [h] at hg; exact absurd hg.1 (by decide)), fun i hi => ?_⟩
    have hg2 := hg.2
    rw [List.all_eq_true] at hg2
    have h2 := hg2 i hi
    simp only [Bool.and_eq_true] at h2
    obtain ⟨o, ho⟩ := Option.isSome_iff_exists.1 h2.1.2
    refine wpOp_mono (fun a' w' h' => ?_) (wpOp_strict (wpList_one ho (hstep i l a w h2.1.1 hR)))
    exact ⟨fun _ => h'.2.1, mach_step hstep hend fuel _ a' w' h2.2 h'.2.2⟩
theorem yields_step (hs : Region.noSelect ops = true) {pre : Nat → Array Bool → Bool} {fin : Array Bool → Bool} {K : Array Bool → Act → Prop} {w : World} (hS : S w) {f : Nat}
    (hK : ∀ l a, machB ops pre fin f l = true → K l a → wpAnyW P .any ops (Strict Q) S (([] : List Nat).contains ·) f l a w) :
    ∀ (ys : List Nat) (l : Array Bool) (a : Act), yieldsB ops pre fin ys f l = true → wpYields P ops S K ys l a → wpAnyW P .any ops (Strict Q) S (([] : List Nat).contains ·) (ys.length + f) l a w
  | [], l, a, hb, h => by
    rw [List.length_nil, Nat.zero_add]
    exact hK l a hb h
  | i :: ys, l, a, hb, h => by
    simp only [yieldsB, Bool.and_eq_true] at hb
    obtain ⟨o, v, ho, hy, hn⟩ := h
    have hc := hb.1
    unfold yieldW at hc
    rw [ho] at hc
    simp only [Bool.and_eq_true, Bool.not_eq_true'] at hc
    rw [List.length_cons, show ys.length + 1 + f = ys.length + f + 1 from by omega]
    exact takeS_gen hs ho hc.1.1.1 hc.1.1.2 hc.1.2 hc.2 hy hS (yields_step hs hS hK ys _ _ hb.2 hn)
/-- the whole check -/
def machWhole (ops : Array Oper) (pre : Nat → Array Bool → Bool) (fin : Array Bool → Bool) (ys : List Nat) (f : Nat) : Bool :=
  (ys.length + f == ops.size) && Region.noSelect ops && yieldsB ops pre fin ys f (Array.replicate ops.size false)
/-- THE LAW. -/
theorem wp_region_mach {id : Nat} {a : Act} {w : World} (S : World → Prop) (pre : Nat → Array Bool → Bool) (fin : Array Bool → Bool) (ys : List Nat) (f : Nat) (R : Array Bool → Act → World → Prop)
    (hm : P.follows .mixedOrders = true) (hB : machWhole ops pre fin ys f = true) (hS : S w.drew)
    (hy : wpYields P ops S (fun l a' => R l a' w.drew) ys (Array.replicate ops.size false) a)
    (hstep : ∀ i l a w, pre i l = true → R l a w → wpList P ops (Strict fun _ a' w' => S w' ∧ R (l.setIfInBounds i true) a' w') ([i].filterMap fun i => ops[i]?) a w)
    (hend : ∀ l a w, fin l = true → R l a w → Strict Q .normal a w) : (Code.region id ops true).wp P Q a w := by
  unfold machWhole at hB
  simp only [Bool.and_eq_true, beq_iff_eq] at hB
  obtain ⟨⟨e, hs⟩, hb⟩ := hB
  refine Code.wp_mono Strict.imp (wp_region_any hm ?_)
  rw [← e] at hb hy ⊢
  exact wpAny_of_W _ _ _ _ (yields_step hs hS (fun l a' h1 h2 => mach_step hstep hend f l a' _ h1 h2) ys _ a hb hy)
end
end Go.Proofs.Ytpoaipoadokggaa
