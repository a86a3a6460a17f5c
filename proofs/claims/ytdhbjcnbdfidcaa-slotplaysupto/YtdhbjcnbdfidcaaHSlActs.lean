/- A slice of what is done to a register (Acts) and a slice of cuts as arguments, opened: no condition but that they are such. -/
import Derived.Test.YtdhbjcnbdfidcaaHSlPS
import Derived.Handy
import Derived.Test.YtdhbjcnbdfidcaaHDkKeep
import Derived.Test.YtdhbjcnbdfidcaaRows
import Derived.WalkKit
import Derived.ProofKit
import Derived.OpenShut
import Derived.Carry
import Derived.Deep.Slices
import Derived.Lib.SmallJoins
import Derived.SizedLaws
import Derived.Test.YtdhbjcnbdfidcaaHRefPut
import Derived.Test.YtdhbjcnbdfidcaaHDkNil
import Derived.SliceStrings
import Derived.Test.YtdhbjcnbdfidcaaHSlRef

namespace Go.Proofs.Ytdhbjcnbdfidcaa
open Go Go.RowKit
set_option linter.unusedSimpArgs false
set_option linter.unusedVariables false

/-- the document's new list, in memory of its own -/
def NewOwn (w W : World) (g r m : Nat) (q : QD) (v : Value) (L' : List Sl) (a3 : Option Addr) (c3 : Nat) : Prop :=
  W.ownsRow w.heap.size 36 34 (.slice a3 L'.length c3) L'.length (slL L') ∧ ∀ x, (Value.slice a3 L'.length c3).ownBlock = some x → ¬ rdfoot g 16 q r m v x
section
variable {w : World} {g r m bm : Nat} {C : List (Int × Bool)} {acu : Option Addr} {ccu i : Nat} {L L' : List Sl} {q q' : QD} {v v' : Value} {a2 a3 : Option Addr} {c2 c3 : Nat}
theorem NewOwn.below {W W' : World} (h : NewOwn w W g r m q v L' a3 c3) (hb : Below W.heap.size W W') : NewOwn w W' g r m q v L' a3 c3 := ⟨kown_below h.1 hb, h.2⟩
theorem NewOwn.setOther {W : World} (h : NewOwn w W g r m q v L' a3 c3) {b : Nat} {cs : Array Value} (hb : Blk W b 39 cs) (ds : Array Value) : NewOwn w (W.setRow b ds) g r m q v L' a3 c3 :=
  ⟨kown_kept h.1 fun x _ hx => setRow_other W b x _ fun e => own_ne h.1 hb (by decide) (e ▸ hx), h.2⟩
/-- the register turned, and the document's register stored -/
theorem PS.setM {W W' : World} (h : PS w W g r m bm C acu ccu i L q v a2 c2) (ho : NewOwn w W g r m q v L' a3 c3) (hcn : Cnt L') (hlen : L'.length ≤ i + 1)
    (hrd : ∃ F k lg, RD W' w.heap.size g 16 F k lg q' C r m v' L' ∧ k ≤ i + 1 ∧ lg ≤ i + 1) (hq : QuietC q'.cu q'.dd q' (i + 1)) (hm : RDMoved g 16 q r m v q' v' W W') :
    PS w (W'.setRow bm (rgC (lastS L') (.slice a3 L'.length c3))) g r m bm C acu ccu (i + 1) L' q' v' a3 c3 := by
  obtain ⟨F0, k0, lg0, h1, _, _⟩ := h.rd
  obtain ⟨F, k, lg, h2, hk, hlg⟩ := hrd
  have hn : ∀ x, x < W.heap.size → ¬ rdfoot g 16 q r m v x → ¬ rdfoot g 16 q' r m v' x := fun x hx hf e => by
    rcases hm.2 x e with z | z
    · exact hf z
    · omega
  have hbm := hm.blk h.mb h.nbm
  have hlow : Below w.heap.size w W' := h.low.trans (h1.low h.low.size hm)
  have hcu : CutsAt W' w.heap.size (.slice acu C.length ccu) C := kown_kept h.cu fun x _ hx => hm.1.block x (h.cu.lt x hx).2 (h.ncu x hx)
  have hown : W'.ownsRow w.heap.size 36 34 (.slice a3 L'.length c3) L'.length (slL L') := kown_kept ho.1 fun x _ hx => hm.1.block x (ho.1.lt x hx).2 (ho.2 x hx)
  refine ⟨⟨F, k, lg, ⟨h2.d.kept fun z hz => setRow_other W' bm z _ fun e => hbm.2 (e ▸ .inl hz), own_block h2.c fun z hz => setRow_other W' bm z _ fun e => own_ne h2.c hbm.1 (by decide) (e ▸ hz), h2.reg.kept fun z hz => setRow_other W' bm z _ fun e => hbm.2 (e ▸ .inr hz), h2.ap⟩, hk, hlg⟩, hq, hcn, hlen, hbm.1.set _, hbm.2, ?_, fun x hx => hn x (ho.1.lt x hx).2 (ho.2 x hx), ?_, fun x hx => hn x (h.cu.lt x hx).2 (h.ncu x hx), h.wB, below_setRow hlow h.wB _⟩
  · exact kown_kept hown fun x _ hx => setRow_other W' bm x _ fun e => own_ne hown hbm.1 (by decide) (e ▸ hx)
  · exact kown_kept hcu fun x _ hx => setRow_other W' bm x _ fun e => own_ne hcu hbm.1 (by decide) (e ▸ hx)
/-- THE WRITE. -/
theorem ps_slot2 (hC : C.length ≤ 64) (hi : i < 1048577) (s : Sl) (hs64 : s.1 < 18446744073709551616) (W : World) (h : PS w W g r m bm C acu ccu i L q v a2 c2) :
    ∃ (f : Int) (came : Bool) (L' : List Sl),
      (∀ W', PS w W' g r m bm C acu ccu i L q v a2 c2 → Calls Try.prog 11 #[.agg (rgC (lastS L) (.slice a2 L.length c2)), .agg (slC s), .bool q.dd, .agg #[.bool (evT C q.ev), .bool (evD C q.ev)]] W' fun e W'' => ∃ a3 c3, e = .returned (.tuple #[.agg (rgC (lastS L') (.slice a3 L'.length c3)), .bool came, .int .i64 f]) ∧ NewOwn w W'' g r m q v L' a3 c3 ∧ Below W'.heap.size W' W'') ∧
      ∀ W' a3 c3, PS w W' g r m bm C acu ccu i L q v a2 c2 → NewOwn w W' g r m q v L' a3 c3 → Calls Try.prog 13 #[.pointer (some ⟨r, 0, none⟩), .agg (slC s)] W' fun e W'' => e = .returned (.int .i64 f) ∧ ∃ q' v', PS w (W''.setRow bm (rgC (lastS L') (.slice a3 L'.length c3))) g r m bm C acu ccu (i + 1) L' q' v' a3 c3 ∧ q'.ev = (if came = true then q.ev + 1 else q.ev) ∧ q'.dd = (if came = true then evD C q.ev else q.dd) ∧ (∀ x t cs, Blk W' x t cs → ¬ rdfoot g 16 q r m v x → Blk W'' x t cs) := by
  rcases ps_slot hC hi s hs64 W h with ⟨f, hw1, hw2⟩ | ⟨hd, f, L', hcn, hlen, hw1, hw2⟩
  · refine ⟨f, false, L, fun W' h' => (hw1 W').mono ?_, fun W' a3 c3 h' ho => (hw2 W' h').mono ?_⟩
    · rintro e W'' ⟨rfl, hb⟩
      exact ⟨a2, c2, rfl, ⟨kown_below h'.own hb, h'.nown⟩, hb⟩
    · rintro e W'' ⟨rfl, hb⟩
      obtain ⟨F, k, lg, h1, h2, h3⟩ := h'.rd
      exact ⟨rfl, q, v, h'.setM ho h'.cn (by have := h'.len; omega) ⟨F, k, lg, h1.below hb, by omega, by omega⟩ (h'.qt.mono (Nat.le_succ _)) (.of_below hb), rfl, rfl, fun x t cs hx _ => hx.below hb hx.lt⟩
  · refine ⟨f, true, L', fun W' h' => (hw1 W' h'.own h'.low.size).mono ?_, fun W' a3 c3 h' ho => (hw2 W' h').mono ?_⟩
    · rintro e W'' ⟨a3, c3, rfl, ho, hx, hb⟩
      refine ⟨a3, c3, rfl, ⟨ho, fun x hx2 => ?_⟩, hb⟩
      rcases hx with hx | hx
      · exact h'.nown x (hx ▸ hx2)
      · obtain ⟨F, k, lg, h1, _, _⟩ := h'.rd
        exact h1.new_ne (hx x hx2)
    · rintro e W'' ⟨rfl, q', v', h1, h2, h3, h4, h5⟩
      exact ⟨rfl, q', v', h'.setM ho hcn hlen h1 h2 h5, by simpa using h3, by simpa using h4, fun x t cs hx hn => (h5.blk hx hn).1⟩
end
end Go.Proofs.Ytdhbjcnbdfidcaa

namespace Go.Proofs.Ytdhbjcnbdfidcaa
open Go Go.RowKit

/-- the plan of a region's walk -/
inductive Plan where
  | fin (takes : List Nat)
  | force (ts : List Nat) (i : Nat) (next : Plan)
  | yield (ts : List Nat) (i : Nat) (next : Plan)
  | fork (i j : Nat) (p q : Plan)
def Plan.len : Plan → Nat
  | .fin takes => takes.length
  | .force ts _ p => ts.length + (1 + p.len)
  | .yield ts _ p => ts.length + (1 + p.len)
  | .fork _ _ p _ => p.len + 1
/-- the check -/
def Plan.ok (ops : Array Oper) : Plan → Array Bool → Bool
  | .fin takes, listed => match takesB .any ops [] [] takes listed with
    | some l => (Region.ready .any ops l).isEmpty
    | none => false
  | .force ts i p, listed => match takesB .any ops [] [] ts listed with
    | some l => forceW .any ops l i && p.ok ops (l.setIfInBounds i true)
    | none => false
  | .yield ts i p, listed => match takesB .any ops [] [] ts listed with
    | some l => yieldW .any ops l [] i && p.ok ops (l.setIfInBounds i true)
    | none => false
  | .fork i j p q, listed => Region.ready .any ops listed == [i, j] && (ops[i]?).isSome && (ops[j]?).isSome && p.len == q.len && p.ok ops (listed.setIfInBounds i true) && q.ok ops (listed.setIfInBounds j true)
def Plan.whole (ops : Array Oper) (p : Plan) : Bool := p.len == ops.size && Region.noSelect ops && p.ok ops (Array.replicate ops.size false)
section
variable {P : Program} {ops : Array Oper} {Q : Exit → Act → World → Prop} {S : World → Prop}
/-- the walk -/
def wpPlan (P : Program) (ops : Array Oper) (Q : Exit → Act → World → Prop) (S : World → Prop) : Plan → Act → World → Prop
  | .fin takes, a, w => wpList P ops (Strict Q) (takes.filterMap fun i => ops[i]?) a w
  | .force ts i p, a, w => wpList P ops (Strict fun _ a' w' => S w' ∧ wpPlan P ops Q S p a' w') ((ts ++ [i]).filterMap fun i => ops[i]?) a w
  | .yield ts i p, a, w => wpList P ops (Strict fun _ a' w' => ∃ o v, ops[i]? = some o ∧ YieldsIf P ops S o v a' ∧ wpPlan P ops Q S p (a'.put o.dst v) w') ((ts ++ []).filterMap fun i => ops[i]?) a w
  | .fork i j p q, a, w => wpList P ops (Strict fun _ a' w' => S w' ∧ wpPlan P ops Q S p a' w') ([i].filterMap fun i => ops[i]?) a w ∧ wpList P ops (Strict fun _ a' w' => S w' ∧ wpPlan P ops Q S q a' w') ([j].filterMap fun i => ops[i]?) a w
theorem plan_step (hs : Region.noSelect ops = true) : ∀ (p : Plan) (listed : Array Bool) (a : Act) (w : World), p.ok ops listed = true → S w →
      wpPlan P ops Q S p a w → wpAnyW P .any ops (Strict Q) S (([] : List Nat).contains ·) p.len listed a w
  | .fin takes, listed, a, w, hb, hS, h => by
    unfold Plan.ok at hb
    split at hb
    · rename_i l2 hl2
      have h2 : wpList P ops (Strict Q) ((takes ++ []).filterMap fun i => ops[i]?) a w := by
        rw [List.append_nil]
        exact h
      exact takesS_step hs [] 0 Q takes listed l2 a w hl2 (fun a' w' _ h' => ⟨by simpa using hb, h'⟩) hS h2
    · cases hb
  | .force ts i p, listed, a, w, hb, hS, h => by
    unfold Plan.ok at hb
    split at hb
    · rename_i l2 hl2
      simp only [Bool.and_eq_true] at hb
      refine takesS_step hs [i] _ _ ts listed l2 a w hl2 (fun a' w' _ h' => ?_) hS h
      obtain ⟨o, ho⟩ := has_op' hb.1
      rw [Nat.add_comm 1]
      refine forceS_step hb.1 (wpOp_mono (fun a2 w2 h2 => ?_) (wpOp_strict (wpList_one ho h')))
      have h3 := h2.2
      exact ⟨fun _ => h3.1, plan_step hs p _ a2 w2 hb.2 h3.1 h3.2⟩
    · cases hb
  | .yield ts i p, listed, a, w, hb, hS, h => by
    unfold Plan.ok at hb
    split at hb
    · rename_i l2 hl2
      simp only [Bool.and_eq_true] at hb
      refine takesS_step hs [] _ _ ts listed l2 a w hl2 (fun a' w' hS' h' => ?_) hS h
      obtain ⟨-, o, v, ho, hy, hn⟩ := h'
      have hc := hb.1
      unfold yieldW at hc
      rw [ho] at hc
      simp only [Bool.and_eq_true, Bool.not_eq_true'] at hc
      rw [Nat.add_comm 1]
      exact takeS_gen hs ho hc.1.1.1 hc.1.1.2 hc.1.2 hc.2 hy hS' (plan_step hs p _ _ w' hb.2 hS' hn)
    · cases hb
  | .fork i j p q, listed, a, w, hb, hS, h => by
    simp only [Plan.ok, Bool.and_eq_true, beq_iff_eq] at hb
    obtain ⟨⟨⟨⟨⟨hr, hi⟩, hj⟩, hl⟩, hp⟩, hq⟩ := hb
    refine ⟨fun h0 => (by rw [h0] at hr; cases hr), fun x hx => ?_⟩
    rw [hr] at hx
    have hx2 : x = i ∨ x = j := by simpa using hx
    rcases hx2 with rfl | rfl
    · obtain ⟨o, ho⟩ := Option.isSome_iff_exists.1 hi
      refine wpOp_mono (fun a' w' h' => ?_) (wpOp_strict (wpList_one ho h.1))
      exact ⟨fun _ => h'.2.1, plan_step hs p _ a' w' hp h'.2.1 h'.2.2⟩
    · obtain ⟨o, ho⟩ := Option.isSome_iff_exists.1 hj
      refine wpOp_mono (fun a' w' h' => ?_) (wpOp_strict (wpList_one ho h.2))
      have := plan_step hs q _ a' w' hq h'.2.1 h'.2.2
      rw [← hl] at this
      exact ⟨fun _ => h'.2.1, this⟩
/-- THE LAW. -/
theorem wp_region_plan {id : Nat} {a : Act} {w : World} (S : World → Prop) (p : Plan) (hm : P.follows .mixedOrders = true) (hB : p.whole ops = true)
    (hS : S w.drew) (h : wpPlan P ops Q S p a w.drew) : (Code.region id ops true).wp P Q a w := by
  unfold Plan.whole at hB
  simp only [Bool.and_eq_true, beq_iff_eq] at hB
  refine Code.wp_mono Strict.imp (wp_region_any hm ?_)
  rw [← hB.1.1]
  exact wpAny_of_W _ _ _ _ (plan_step hB.1.2 p _ a _ (by rw [hB.1.1]; exact hB.2) hS h)
theorem plan_force {ts : List Nat} {i : Nat} {p : Plan} {a : Act} {w : World}
    (h : wpList P ops (Strict fun _ a' w' => S w' ∧ wpPlan P ops Q S p a' w') ((ts ++ [i]).filterMap fun i => ops[i]?) a w) : wpPlan P ops Q S (.force ts i p) a w := h
theorem plan_yield {ts : List Nat} {i : Nat} {p : Plan} {a : Act} {w : World}
    (h : wpList P ops (Strict fun _ a' w' => ∃ o v, ops[i]? = some o ∧ YieldsIf P ops S o v a' ∧ wpPlan P ops Q S p (a'.put o.dst v) w') ((ts ++ []).filterMap fun i => ops[i]?) a w) : wpPlan P ops Q S (.yield ts i p) a w := h
theorem plan_fork {i j : Nat} {p q : Plan} {a : Act} {w : World} (h1 : wpList P ops (Strict fun _ a' w' => S w' ∧ wpPlan P ops Q S p a' w') ([i].filterMap fun i => ops[i]?) a w)
    (h2 : wpList P ops (Strict fun _ a' w' => S w' ∧ wpPlan P ops Q S q a' w') ([j].filterMap fun i => ops[i]?) a w) : wpPlan P ops Q S (.fork i j p q) a w := ⟨h1, h2⟩
theorem plan_fin {takes : List Nat} {a : Act} {w : World} (h : wpList P ops (Strict Q) (takes.filterMap fun i => ops[i]?) a w) : wpPlan P ops Q S (.fin takes) a w := h
end
end Go.Proofs.Ytdhbjcnbdfidcaa

namespace Go.Proofs.Ytdhbjcnbdfidcaa
open Go.ChangeShapes Go.WideShapes Go.ChangeAt Go.RowKit Go.Joins
set_option linter.unusedVariables false

theorem kcell_lt {w : World} {a : Addr} {v : Value} (h : w.cell? a = some v) : a.block < w.heap.size := by
  obtain ⟨e, n, hs, _⟩ := World.shape?_of_cell? h
  unfold World.shape? at hs
  cases hb : w.heap[a.block]? with
  | none => simp [hb] at hs
  | some o => exact (Array.getElem?_eq_some_iff.1 hb).1
theorem trod_bytes {H : Type} {enc : TypeId × Value → H} {P : Program} {w : World} {base : Nat} {spare : Nat → Bool} {held : Bool} {t e : TypeId} {n fuel : Nat} {cs : List Value} {x : DataW H × List MemPlace} (ht : P.underlying t = some (.array n e)) (he : P.underlying e = some (.int .u8)) (hce : P.cellsOf e = 1)
    (hf : DataW.trod enc P w base spare held fuel t cs = some x) : ∀ i, i < n → ∃ z : Nat, cs[i]? = some (.int .u8 ((z : Nat) : Int)) ∧ z < 256 := by
  obtain ⟨xs, m, rfl, hx, hl, hn, hall⟩ := DataW.trod_array ht hf
  intro i hi
  have h1 := hall i hi
  have hget : xs[i]? = some xs[i] := List.getElem?_eq_getElem (by omega)
  rw [hget, hce, Nat.mul_one] at h1
  obtain ⟨z, hz, hz2, hz3⟩ := DataW.trod_int he h1
  have hb := bounds_u8 hz3
  refine ⟨z.toNat, ?_, by omega⟩
  have h2 : (cs.drop i).head? = some (.int .u8 z) := by
    cases hd : cs.drop i with
    | nil => rw [hd] at hz; simp at hz
    | cons a l => rw [hd] at hz; simp at hz; rw [hz]; rfl
  rw [List.head?_drop] at h2
  rw [h2]
  congr 2
  omega

set_option maxRecDepth 100000 in
/-- the argument, opened -/
theorem open_blocks {H : Type} {enc : TypeId × Value → H} {W : World} {a0 : Option Addr} {len cap fuel : Nat} {x : DataW H × List MemPlace}
    (hf : DataW.trod enc Try.prog W 0 (fun _ => true) true fuel 75 [.slice a0 len cap] = some x) (hsz : ∀ n ∈ x.1.weights Try.prog 75, n ≤ reachBytes) :
    ∃ L : Nat → Nat → Nat, len * 256 ≤ 140737488351232 ∧ (∀ i j, L i j < 256) ∧ IsBlks W a0 len L ∧ (a0 = none → len = 0 ∧ cap = 0) ∧ len ≤ cap ∧ cap * 256 ≤ 140737488351232 := by
  rcases Deep.open_slice Try.underlying75 hf with ⟨hcs, hx⟩ | ⟨a, len', cap', m, n, D, Pl, hcs, _, hl, hm, hmm, hx, hel⟩
  · simp at hcs
    obtain ⟨rfl, rfl, rfl⟩ := hcs
    exact ⟨fun _ _ => 0, by omega, fun _ _ => Nat.zero_lt_succ _, fun i hi => absurd hi (by omega), fun _ => ⟨rfl, rfl⟩, Nat.le_refl _, by omega⟩
  · simp at hcs
    obtain ⟨rfl, rfl, rfl⟩ := hcs
    subst hx
    simp only [if_true] at hmm
    subst hmm
    have hu := Try.underlying75
    have hby : Try.prog.bytesOf 60 = 256 := by kernel_rfl
    have hw0 := hsz ((((List.range len).map D).length + ((List.range (m - len)).map fun j => D (len + j)).length) * Try.prog.bytesOf 60) (by simp [DataW.weights, hu])
    rw [hby] at hw0
    simp only [List.length_map, List.length_range] at hw0
    have hlen4 : len * 256 ≤ 140737488351232 := by
      unfold reachBytes at hw0
      omega
    have hce : Try.prog.cellsOf 60 = 256 := by kernel_rfl
    have hcb : Try.prog.cellsOf 5 = 1 := by kernel_rfl
    have hcs : ∀ i, i < len → ∃ cs' : List Value, (∀ j, j < 256 → W.cell? (a.add (i * 256 + j)) = cs'[j]?) ∧ ∀ j, j < 256 → ∃ z : Nat, cs'[j]? = some (.int .u8 ((z : Nat) : Int)) ∧ z < 256 := fun i hi => by
      obtain ⟨cs', h1, h2⟩ := hel i (by omega)
      rw [hce] at h1
      obtain ⟨_, hcl, hcell⟩ := World.cells?_some h1
      refine ⟨cs', fun j hj => ?_, trod_bytes Try.underlying60 Try.underlying5 hcb h2⟩
      have c0 := hcell j (by omega)
      rw [Addr.add_add] at c0
      exact c0
    have hsp : 0 < len → a.spot = none := fun h0 => by
      obtain ⟨cs', h1, h2⟩ := hcs 0 h0
      obtain ⟨z, hz, _⟩ := h2 0 (by omega)
      have := h1 0 (by omega)
      rw [hz] at this
      simpa [Addr.add] using World.cell?_spot this
    have each : ∀ i j, ∃ z : Nat, z < 256 ∧ (i < len → j < 256 → W.cell? (a.add (i * 256 + j)) = some (.int .u8 ((z : Nat) : Int))) := fun i j => by
      by_cases hi : i < len
      · by_cases hj : j < 256
        · obtain ⟨cs', h1, h2⟩ := hcs i hi
          obtain ⟨z, hz, hlt⟩ := h2 j hj
          exact ⟨z, hlt, fun _ _ => (h1 j hj).trans hz⟩
        · exact ⟨0, by omega, fun _ h => absurd h hj⟩
      · exact ⟨0, by omega, fun h => absurd h hi⟩
    obtain ⟨L, hL⟩ : ∃ L : Nat → Nat → Nat, ∀ i j, L i j < 256 ∧ (i < len → j < 256 → W.cell? (a.add (i * 256 + j)) = some (.int .u8 ((L i j : Nat) : Int))) := ⟨fun i j => Classical.choose (each i j), fun i j => Classical.choose_spec (each i j)⟩
    refine ⟨L, hlen4, fun i j => (hL i j).1, fun i hi => ?_, (fun h => by cases h), by omega, by unfold reachBytes at hw0; omega⟩
    obtain ⟨b, off, spot⟩ := a
    have hspot : spot = none := hsp (by omega)
    subst hspot
    have cell : ∀ j, j < 256 → W.cell? ⟨b, off + i * 256 + j, none⟩ = some (.int .u8 ((L i j : Nat) : Int)) := fun j hj => by
      have := (hL i j).2 hi hj
      rw [Addr.add_mid] at this
      rw [Nat.add_assoc]
      exact this
    refine ⟨b, off, rfl, kcell_lt (cell 0 (by omega)), fun j v hv => ?_⟩
    have hj : j < 256 := by
      have := (List.getElem?_eq_some_iff.1 hv).1
      simpa using this
    rw [cell j hj, ← hv]
    simp [hj, iv]
end Go.Proofs.Ytdhbjcnbdfidcaa

namespace Go.Proofs.Ytdhbjcnbdfidcaa
open Go.ChangeShapes Go.WideShapes Go.ChangeAt Go.RowKit Go.Joins
set_option linter.unusedVariables false

theorem sbulk_pos {H : Type} (d : DataW H) : 1 ≤ Rows.uptoBulk d := by
  cases d with
  | lit l => cases l <;> simp [Rows.uptoBulk]
  | _ => simp [Rows.uptoBulk]
theorem sbulk_len {H : Type} : ∀ l : List (DataW H), l.length ≤ Rows.uptoBulkAll l
  | [] => Nat.zero_le _
  | d :: l => by
    have h1 := sbulk_pos d
    have h2 := sbulk_len l
    simp only [List.length_cons, Rows.uptoBulkAll]
    omega
end Go.Proofs.Ytdhbjcnbdfidcaa

namespace Go.Proofs.Ytdhbjcnbdfidcaa
open Go.ChangeShapes Go.WideShapes Go.ChangeAt Go.RowKit Go.Joins
set_option linter.unusedVariables false
set_option linter.unusedSimpArgs false

theorem take_one {l : List Value} {o : Nat} {v : Value} (h : (l.drop o).take 1 = [v]) : l[o]? = some v := by
  have h2 : (l.drop o).head? = some v := by
    cases hd : l.drop o with
    | nil => rw [hd] at h; simp at h
    | cons a t => rw [hd] at h; simp at h; rw [h]; rfl
  rw [List.head?_drop] at h2
  exact h2
set_option maxRecDepth 100000 in
theorem open_slot_cells {H : Type} {enc : TypeId × Value → H} {W : World} {fuel : Nat} {l : List Value} {x : DataW H × List MemPlace} (hl : l.length = 34)
    (hf : DataW.trod enc Try.prog W 0 (fun _ => true) true fuel 50 l = some x) :
    ∃ s : Sl, l = (slC s).toList ∧ s.1 < 18446744073709551616 ∧ s.2.1 < 4294967296 ∧ ∀ i, i < 32 → dF s.2.2 i < 256 := by
  have hc8 : Try.prog.cellsOf 31 = 1 := by kernel_rfl
  have hc4 : Try.prog.cellsOf 32 = 1 := by kernel_rfl
  have hc1 : Try.prog.cellsOf 5 = 1 := by kernel_rfl
  have hcr : Try.prog.cellsOf 48 = 33 := by kernel_rfl
  have hcs : Try.prog.cellsOf 44 = 32 := by kernel_rfl
  obtain ⟨xs, k, hk, hxy, _, hxl, hfs⟩ := DataW.trod_struct Try.underlying50 hf
  match xs, hxl with
  | [y0, y1], _ =>
    have g0 : DataW.trod enc Try.prog W 0 (fun _ => true) true k 31 ((l.drop 0).take (Try.prog.cellsOf 31)) = some y0 := hfs 0 _ rfl
    have g1 : DataW.trod enc Try.prog W 0 (fun _ => true) true k 48 ((l.drop 1).take (Try.prog.cellsOf 48)) = some y1 := hfs 1 _ rfl
    rw [hc8] at g0
    rw [hcr] at g1
    obtain ⟨c, e0, _, w0⟩ := DataW.trod_int Try.underlying31 g0
    obtain ⟨zs, k', hk', hzy, _, hzl, hgs⟩ := DataW.trod_struct Try.underlying48 g1
    match zs, hzl with
    | [z0, z1], _ =>
      have q0 : DataW.trod enc Try.prog W 0 (fun _ => true) true k' 32 ((((l.drop 1).take 33).drop 0).take (Try.prog.cellsOf 32)) = some z0 := hgs 0 _ rfl
      have q1 : DataW.trod enc Try.prog W 0 (fun _ => true) true k' 44 ((((l.drop 1).take 33).drop 1).take (Try.prog.cellsOf 44)) = some z1 := hgs 1 _ rfl
      rw [hc4] at q0
      rw [hcs] at q1
      obtain ⟨a, e1, _, w1⟩ := DataW.trod_int Try.underlying32 q0
      have hby := trod_bytes Try.underlying44 Try.underlying5 hc1 q1
      have b0 := bounds_u64 w0
      have b1 := bounds_u32 w1
      have l0 : l[0]? = some (.int .u64 c) := take_one e0
      have l1 : l[1]? = some (.int .u32 a) := by
        have := take_one e1
        rw [List.getElem?_take, if_pos (by decide), List.getElem?_drop] at this
        exact this
      have l2 : ∀ i, i < 32 → ∃ z : Nat, l[2 + i]? = some (.int .u8 ((z : Nat) : Int)) ∧ z < 256 := fun i hi => by
        obtain ⟨z, h1, h2⟩ := hby i hi
        refine ⟨z, ?_, h2⟩
        rw [List.getElem?_take, if_pos hi, List.getElem?_drop, List.getElem?_take, if_pos (by show 1 + i < 33; omega), List.getElem?_drop] at h1
        rw [← h1]
        congr 1
        show 2 + i = 1 + (1 + i)
        omega
      obtain ⟨f, hfz⟩ : ∃ f : Nat → Nat, ∀ i, i < 32 → l[2 + i]? = some (.int .u8 ((f i : Nat) : Int)) ∧ f i < 256 := ⟨fun i => if h : i < 32 then Classical.choose (l2 i h) else 0, fun i hi => by
        simp only [dif_pos hi]
        exact Classical.choose_spec (l2 i hi)⟩
      refine ⟨(c.toNat, a.toNat, sumD f), ?_, by show c.toNat < _; omega, by show a.toNat < _; omega, fun i hi => ?_⟩
      · apply List.ext_getElem?
        intro i
        by_cases hi : i < 34
        · have hr : (slC (c.toNat, a.toNat, sumD f)).toList[i]? = some (slF (c.toNat, a.toNat, sumD f) i) := by
            have := va_at (slF (c.toNat, a.toNat, sumD f)) hi
            unfold slC
            simpa using this
          rw [hr]
          unfold slF
          by_cases h0 : i = 0
          · subst h0
            rw [if_pos rfl, l0]
            congr 2
            show c = ((c.toNat : Nat) : Int)
            omega
          · by_cases h1 : i = 1
            · subst h1
              rw [if_neg h0, if_pos rfl, l1]
              congr 2
              show a = ((a.toNat : Nat) : Int)
              omega
            · rw [if_neg h0, if_neg h1]
              have := (hfz (i - 2) (by omega)).1
              rw [show 2 + (i - 2) = i by omega] at this
              rw [this]
              congr 3
              show f (i - 2) = dF (sumD f) (i - 2)
              rw [dF_sumD f _ (by omega)]
        · rw [List.getElem?_eq_none (by omega), List.getElem?_eq_none (by rw [Array.length_toList, slC_size]; omega)]
      · show dF (sumD f) i < 256
        rw [dF_sumD f i hi]
        exact (hfz i hi).2
set_option maxRecDepth 100000 in
theorem open_slot {H : Type} {enc : TypeId × Value → H} {W : World} {r : Reach} {b0 : Nat} {v : Value} {d : DataW H} {p : List MemPlace}
    (hv : Value.okWide Try.prog W r b0 50 v) (h : DataW.Trod enc Try.prog W 0 (fun _ => true) true 50 v d p) :
    ∃ s : Sl, v = .agg (slC s) ∧ s.1 < 18446744073709551616 ∧ s.2.1 < 4294967296 ∧ ∀ i, i < 32 → dF s.2.2 i < 256 := by
  obtain ⟨cs, rfl, hcs⟩ := okWide_struct Try.underlying50 hv
  obtain ⟨fuel, hf⟩ := h
  have hc : Try.prog.cellsOf 50 = 34 := by kernel_rfl
  rw [hc] at hcs
  have hl : cs.toList.length = 34 := by rw [Array.length_toList]; exact hcs
  obtain ⟨s, h0, h1, h2, h3⟩ := open_slot_cells hl (show DataW.trod enc Try.prog W 0 (fun _ => true) true fuel 50 cs.toList = some (d, p) from hf)
  refine ⟨s, ?_, h1, h2, h3⟩
  congr 1
  exact Array.toList_inj.1 h0
end Go.Proofs.Ytdhbjcnbdfidcaa

namespace Go.Proofs.Ytdhbjcnbdfidcaa
open Go.ChangeShapes Go.WideShapes Go.ChangeAt Go.RowKit Go.Joins
set_option linter.unusedVariables false
set_option linter.unusedSimpArgs false

theorem pbulk_pos {H : Type} (d : DataW H) : 1 ≤ Rows.uptoBulk d := by
  cases d with
  | lit l => cases l <;> simp [Rows.uptoBulk]
  | _ => simp [Rows.uptoBulk]
theorem pbulk_len {H : Type} : ∀ l : List (DataW H), l.length ≤ Rows.uptoBulkAll l
  | [] => Nat.zero_le _
  | d :: l => by
    have h1 := pbulk_pos d
    have h2 := pbulk_len l
    simp only [List.length_cons, Rows.uptoBulkAll]
    omega
/-- an Act's cells -/
def acF (k y : Int) (a : Nat) (d : Vector Nat 32) : Nat → Value := fun i => if i = 0 then .int .i64 k else if i = 1 then .int .i64 y else if i = 2 then .int .u32 ((a : Nat) : Int) else .int .u8 ((dF d (i - 3) : Nat) : Int)
/-- a slice of Acts, as it came in -/
def IsActs6 (w : World) (a : Option Addr) (n : Nat) (K Y : Nat → Int) (A : Nat → Nat) (D : Nat → Vector Nat 32) : Prop :=
  ∀ i, i < n → ∃ b o, a = some ⟨b, o, none⟩ ∧ b < w.heap.size ∧ w.rangeAt b (o + i * 35) ((List.range 35).map (acF (K i) (Y i) (A i) (D i))) ∧ (-9223372036854775808 ≤ K i ∧ K i ≤ 9223372036854775807) ∧ (-9223372036854775808 ≤ Y i ∧ Y i ≤ 9223372036854775807) ∧ A i < 4294967296
set_option maxRecDepth 100000 in
theorem open_act6_cells {H : Type} {enc : TypeId × Value → H} {W : World} {fuel : Nat} {l : List Value} {x : DataW H × List MemPlace} (hl : l.length = 35)
    (hf : DataW.trod enc Try.prog W 0 (fun _ => true) true fuel 46 l = some x) :
    ∃ (k y : Int) (a : Nat) (d : Vector Nat 32), (∀ i, i < 35 → l[i]? = some (acF k y a d i)) ∧ (-9223372036854775808 ≤ k ∧ k ≤ 9223372036854775807) ∧ (-9223372036854775808 ≤ y ∧ y ≤ 9223372036854775807) ∧ a < 4294967296 := by
  have hc0 : Try.prog.cellsOf 3 = 1 := by kernel_rfl
  have hc8 : Try.prog.cellsOf 2 = 1 := by kernel_rfl
  have hc4 : Try.prog.cellsOf 32 = 1 := by kernel_rfl
  have hc1 : Try.prog.cellsOf 5 = 1 := by kernel_rfl
  have hcs : Try.prog.cellsOf 44 = 32 := by kernel_rfl
  obtain ⟨xs, k, hk, hxy, _, hxl, hfs⟩ := DataW.trod_struct Try.underlying46 hf
  match xs, hxl with
  | [y0, y1, y2, y3], _ =>
    have g0 : DataW.trod enc Try.prog W 0 (fun _ => true) true k 3 ((l.drop 0).take (Try.prog.cellsOf 3)) = some y0 := hfs 0 _ rfl
    have g1 : DataW.trod enc Try.prog W 0 (fun _ => true) true k 2 ((l.drop 1).take (Try.prog.cellsOf 2)) = some y1 := hfs 1 _ rfl
    have g2 : DataW.trod enc Try.prog W 0 (fun _ => true) true k 32 ((l.drop 2).take (Try.prog.cellsOf 32)) = some y2 := hfs 2 _ rfl
    have g3 : DataW.trod enc Try.prog W 0 (fun _ => true) true k 44 ((l.drop 3).take (Try.prog.cellsOf 44)) = some y3 := hfs 3 _ rfl
    rw [hc0] at g0
    rw [hc8] at g1
    rw [hc4] at g2
    rw [hcs] at g3
    obtain ⟨c0, e0, _, w0⟩ := DataW.trod_int Try.underlying3 g0
    obtain ⟨c1, e1, _, w1⟩ := DataW.trod_int Try.underlying2 g1
    obtain ⟨c2, e2, _, w2⟩ := DataW.trod_int Try.underlying32 g2
    have hby := trod_bytes Try.underlying44 Try.underlying5 hc1 g3
    have b0 := bounds_i64 w0
    have b1 := bounds_i64 w1
    have b2 := bounds_u32 w2
    have l0 : l[0]? = some (.int .i64 c0) := take_one e0
    have l1 : l[1]? = some (.int .i64 c1) := take_one e1
    have l2 : l[2]? = some (.int .u32 c2) := take_one e2
    have l3 : ∀ i, i < 32 → ∃ z : Nat, l[3 + i]? = some (.int .u8 ((z : Nat) : Int)) ∧ z < 256 := fun i hi => by
      obtain ⟨z, h1, h2⟩ := hby i hi
      refine ⟨z, ?_, h2⟩
      rw [List.getElem?_take, if_pos hi, List.getElem?_drop] at h1
      exact h1
    obtain ⟨f, hfz⟩ : ∃ f : Nat → Nat, ∀ i, i < 32 → l[3 + i]? = some (.int .u8 ((f i : Nat) : Int)) := ⟨fun i => if h : i < 32 then Classical.choose (l3 i h) else 0, fun i hi => by
      simp only [dif_pos hi]
      exact (Classical.choose_spec (l3 i hi)).1⟩
    refine ⟨c0, c1, c2.toNat, sumD f, fun i hi => ?_, b0, b1, by omega⟩
    unfold acF
    by_cases h0 : i = 0
    · subst h0
      rw [if_pos rfl, l0]
    · by_cases h1 : i = 1
      · subst h1
        rw [if_neg h0, if_pos rfl, l1]
      · by_cases h2 : i = 2
        · subst h2
          rw [if_neg h0, if_neg h1, if_pos rfl, l2]
          congr 2
          omega
        · rw [if_neg h0, if_neg h1, if_neg h2]
          have := hfz (i - 3) (by omega)
          rw [show 3 + (i - 3) = i by omega] at this
          rw [this, dF_sumD f _ (by omega)]
set_option maxRecDepth 100000 in
theorem open_acts6 {H : Type} {enc : TypeId × Value → H} {W : World} {a0 : Option Addr} {len cap fuel : Nat} {x : DataW H × List MemPlace}
    (hf : DataW.trod enc Try.prog W 0 (fun _ => true) true fuel 23 [.slice a0 len cap] = some x) :
    ∃ (K Y : Nat → Int) (A : Nat → Nat) (D : Nat → Vector Nat 32), IsActs6 W a0 len K Y A D ∧ len ≤ Rows.uptoBulk x.1 := by
  rcases Deep.open_slice Try.underlying23 hf with ⟨hcs, hx⟩ | ⟨a, len', cap', m, n, E, Pl, hcs, _, hl, hm, hmm, hx, hel⟩
  · simp at hcs
    obtain ⟨rfl, rfl, rfl⟩ := hcs
    exact ⟨fun _ => 0, fun _ => 0, fun _ => 0, fun _ => Vector.replicate 32 0, fun i hi => absurd hi (by omega), Nat.zero_le _⟩
  · simp at hcs
    obtain ⟨rfl, rfl, rfl⟩ := hcs
    subst hx
    simp only [if_true] at hmm
    subst hmm
    have hce : Try.prog.cellsOf 46 = 35 := by kernel_rfl
    have each : ∀ i, ∃ q : Int × Int × Nat × Vector Nat 32, i < len → (∀ j, j < 35 → W.cell? (a.add (i * 35 + j)) = some (acF q.1 q.2.1 q.2.2.1 q.2.2.2 j)) ∧ (-9223372036854775808 ≤ q.1 ∧ q.1 ≤ 9223372036854775807) ∧ (-9223372036854775808 ≤ q.2.1 ∧ q.2.1 ≤ 9223372036854775807) ∧ q.2.2.1 < 4294967296 := fun i => by
      by_cases hi : i < len
      · obtain ⟨cs', h1, h2⟩ := hel i (by omega)
        rw [hce] at h1
        obtain ⟨_, hcl, hcell⟩ := World.cells?_some h1
        obtain ⟨k, y, c, d, h3, h4, h5, h6⟩ := open_act6_cells hcl h2
        refine ⟨(k, y, c, d), fun _ => ⟨fun j hj => ?_, h4, h5, h6⟩⟩
        have c0 := hcell j (by omega)
        rw [Addr.add_add] at c0
        rw [c0, h3 j hj]
      · exact ⟨(0, 0, 0, Vector.replicate 32 0), fun h => absurd h hi⟩
    obtain ⟨q, hq⟩ : ∃ q : Nat → Int × Int × Nat × Vector Nat 32, ∀ i, i < len → (∀ j, j < 35 → W.cell? (a.add (i * 35 + j)) = some (acF (q i).1 (q i).2.1 (q i).2.2.1 (q i).2.2.2 j)) ∧ (-9223372036854775808 ≤ (q i).1 ∧ (q i).1 ≤ 9223372036854775807) ∧ (-9223372036854775808 ≤ (q i).2.1 ∧ (q i).2.1 ≤ 9223372036854775807) ∧ (q i).2.2.1 < 4294967296 := ⟨fun i => Classical.choose (each i), fun i => Classical.choose_spec (each i)⟩
    have hsp : 0 < len → a.spot = none := fun h0 => by
      have := (hq 0 h0).1 0 (by omega)
      simpa [Addr.add] using World.cell?_spot this
    refine ⟨fun i => (q i).1, fun i => (q i).2.1, fun i => (q i).2.2.1, fun i => (q i).2.2.2, fun i hi => ?_, ?_⟩
    · obtain ⟨h1, h2, h3, h4⟩ := hq i hi
      obtain ⟨b, off, spot⟩ := a
      have hspot : spot = none := hsp (by omega)
      subst hspot
      have cell : ∀ j, j < 35 → W.cell? ⟨b, off + i * 35 + j, none⟩ = some (acF (q i).1 (q i).2.1 (q i).2.2.1 (q i).2.2.2 j) := fun j hj => by
        have := h1 j hj
        rw [Addr.add_mid] at this
        rw [Nat.add_assoc]
        exact this
      refine ⟨b, off, rfl, kcell_lt (cell 0 (by omega)), fun j v hv => ?_, h2, h3, h4⟩
      have hj : j < 35 := by
        have := (List.getElem?_eq_some_iff.1 hv).1
        simpa using this
      rw [cell j hj, ← hv]
      simp [hj]
    · have := pbulk_len ((List.range len).map E)
      rw [List.length_map, List.length_range] at this
      simp only [Rows.uptoBulk]
      omega
set_option maxRecDepth 100000 in
theorem open_cuts {H : Type} {enc : TypeId × Value → H} {W : World} {a0 : Option Addr} {len cap fuel : Nat} {x : DataW H × List MemPlace}
    (hf : DataW.trod enc Try.prog W 0 (fun _ => true) true fuel 22 [.slice a0 len cap] = some x) :
    ∃ D : Nat → Int × Bool, IsCuts W a0 len D ∧ len ≤ Rows.uptoBulk x.1 := by
  rcases Deep.open_slice Try.underlying22 hf with ⟨hcs, hx⟩ | ⟨a, len', cap', m, n, E, Pl, hcs, _, hl, hm, hmm, hx, hel⟩
  · simp at hcs
    obtain ⟨rfl, rfl, rfl⟩ := hcs
    exact ⟨fun _ => (0, false), fun i hi => absurd hi (by omega), Nat.zero_le _⟩
  · simp at hcs
    obtain ⟨rfl, rfl, rfl⟩ := hcs
    subst hx
    simp only [if_true] at hmm
    subst hmm
    have hce : Try.prog.cellsOf 41 = 2 := by kernel_rfl
    have hc0 : Try.prog.cellsOf 3 = 1 := by kernel_rfl
    have hcb : Try.prog.cellsOf 4 = 1 := by kernel_rfl
    have each : ∀ i, ∃ q : Int × Bool, i < len → W.cell? (a.add (i * 2)) = some (.int .i64 q.1) ∧ W.cell? (a.add (i * 2 + 1)) = some (.bool q.2) := fun i => by
      by_cases hi : i < len
      · obtain ⟨cs', h1, h2⟩ := hel i (by omega)
        rw [hce] at h1
        obtain ⟨_, hcl, hcell⟩ := World.cells?_some h1
        obtain ⟨xs, k, hk, hxy, _, hxl, hfs⟩ := DataW.trod_struct Try.underlying41 h2
        match xs, hxl with
        | [y0, y1], _ =>
          have g0 : DataW.trod enc Try.prog W 0 (fun _ => true) true k 3 ((cs'.drop 0).take (Try.prog.cellsOf 3)) = some y0 := hfs 0 _ rfl
          have g1 : DataW.trod enc Try.prog W 0 (fun _ => true) true k 4 ((cs'.drop 1).take (Try.prog.cellsOf 4)) = some y1 := hfs 1 _ rfl
          rw [hc0] at g0
          rw [hcb] at g1
          obtain ⟨e0, r0, _, w0⟩ := DataW.trod_int Try.underlying3 g0
          obtain ⟨af, r1, _⟩ := DataW.trod_bool Try.underlying4 g1
          refine ⟨(e0, af), fun _ => ⟨?_, ?_⟩⟩
          · have c0 := hcell 0 (by omega)
            rw [Addr.add_add] at c0
            rw [Nat.add_zero] at c0
            rw [c0]
            exact take_one r0
          · have c1 := hcell 1 (by omega)
            rw [Addr.add_add] at c1
            rw [c1]
            exact take_one r1
      · exact ⟨(0, false), fun h => absurd h hi⟩
    obtain ⟨q, hq⟩ : ∃ q : Nat → Int × Bool, ∀ i, i < len → W.cell? (a.add (i * 2)) = some (.int .i64 (q i).1) ∧ W.cell? (a.add (i * 2 + 1)) = some (.bool (q i).2) := ⟨fun i => Classical.choose (each i), fun i => Classical.choose_spec (each i)⟩
    have hsp : 0 < len → a.spot = none := fun h0 => by
      have := (hq 0 h0).1
      simpa [Addr.add] using World.cell?_spot this
    refine ⟨q, fun i hi => ?_, ?_⟩
    · obtain ⟨h1, h2⟩ := hq i hi
      obtain ⟨b, off, spot⟩ := a
      have hspot : spot = none := hsp (by omega)
      subst hspot
      rw [Addr.add_mid] at h1 h2
      exact ⟨b, off, rfl, kcell_lt h1, h1, by rw [Nat.add_assoc]; exact h2⟩
    · have := pbulk_len ((List.range len).map E)
      rw [List.length_map, List.length_range] at this
      simp only [Rows.uptoBulk]
      omega
end Go.Proofs.Ytdhbjcnbdfidcaa
