/- A region that draws its order, in which readers of old memory are taken ahead and then two operations come up, either of them first: both ways are walked. No program in it. -/
import Derived.Test.YtjjjgnaihnknjaaSegs
namespace Go.Proofs.Ytjjjgnaihnknjaa
open Go Go.RowKit

section
variable {P : Program} {ops : Array Oper} {Q : Exit → Act → World → Prop}

/-- the check of the whole region -/
def eitherB (ops : Array Oper) (lows : List Tmp) (takes : List Nat) (i j : Nat) (ps : List (List Nat × Nat × Bool)) (tail : List Nat) : Bool :=
  takes.length + (1 + (1 + lenOf ps tail.length)) == ops.size && Region.noSelect ops && (lows.all fun x => ops.all fun o => o.dst != some x) &&
    match takesB .any ops tail lows takes (Array.replicate ops.size false) with
    | some l => Region.ready .any ops l == [i, j] && (ops[i]?).isSome && (ops[j]?).isSome && partsB .any ops tail lows (([], j, false) :: ps) [] tail (l.setIfInBounds i true) && partsB .any ops tail lows (([], i, false) :: ps) [] tail (l.setIfInBounds j true)
    | none => false

/-- THE LAW. -/
theorem wp_region_either {id : Nat} {a : Act} {w : World} (lows : List Tmp) (takes : List Nat) (i j : Nat) (ps : List (List Nat × Nat × Bool)) (tail : List Nat) (B : Nat) (hm : P.follows .mixedOrders = true) (hB : eitherB ops lows takes i j ps tail = true)
    (hl : Lows lows B w a)
    (h : wpList P ops (Strict fun _ a' w' => wpParts P ops Q (Below B w) (([], i, false) :: ([], j, false) :: ps) ([] ++ tail) a' w' ∧ wpParts P ops Q (Below B w) (([], j, false) :: ([], i, false) :: ps) ([] ++ tail) a' w') ((takes ++ []).filterMap fun i => ops[i]?) a w.drew) :
    (Code.region id ops true).wp P Q a w := by
  unfold eitherB at hB
  simp only [Bool.and_eq_true, beq_iff_eq] at hB
  obtain ⟨⟨⟨hlen, hs⟩, hlow⟩, hrest⟩ := hB
  have hd : ∀ x ∈ lows, ∀ (j : Nat) (o : Oper), ops[j]? = some o → o.dst ≠ some x := fun x hx j o ho => by
    have h1 := List.all_eq_true.1 hlow x hx
    have h2 := Array.all_eq_true_iff_forall_mem.1 h1 o (Array.mem_of_getElem? ho)
    simpa using h2
  split at hrest
  · rename_i l hl2
    simp only [Bool.and_eq_true, beq_iff_eq] at hrest
    obtain ⟨⟨⟨⟨hr, hi⟩, hj⟩, ht1⟩, ht2⟩ := hrest
    obtain ⟨oi, hi⟩ := Option.isSome_iff_exists.1 hi
    obtain ⟨oj, hj⟩ := Option.isSome_iff_exists.1 hj
    refine Code.wp_mono Strict.imp (wp_region_any hm ?_)
    rw [← hlen]
    refine wpAny_of_W (S := Below B w) (W := (tail.contains ·)) _ _ _ _ (takes_step hs hd [] _ _ takes _ l a _ (by rw [hlen]; exact hl2) (fun a' w' hl' _ h' => ?_) hl (Below.refl B w).drew h)
    obtain ⟨-, h1, h2⟩ := h'
    rw [Nat.add_comm 1]
    refine ⟨fun h0 => (by rw [hr] at h0; cases h0), ?_⟩
    rw [hr]
    intro x hx
    have hx' : x = i ∨ x = j := by simpa using hx
    have e : 1 + lenOf ps tail.length = lenOf (([], j, false) :: ps) (([] : List Nat).length + tail.length) := by simp only [lenOf, List.length_nil, Nat.zero_add]
    have e2 : 1 + lenOf ps tail.length = lenOf (([], i, false) :: ps) (([] : List Nat).length + tail.length) := by simp only [lenOf, List.length_nil, Nat.zero_add]
    rcases hx' with rfl | rfl
    · refine wpOp_mono (fun a2 w2 h3 => ?_) (lows_put hd hl' (wpOp_strict (wpList_one hi h1)))
      obtain ⟨hl3, -, hS3, h4⟩ := h3
      rw [e]
      exact ⟨fun _ => hS3, parts_step hs hd [] tail _ _ a2 w2 ht1 hl3 hS3 h4⟩
    · refine wpOp_mono (fun a2 w2 h3 => ?_) (lows_put hd hl' (wpOp_strict (wpList_one hj h2)))
      obtain ⟨hl3, -, hS3, h4⟩ := h3
      rw [e2]
      exact ⟨fun _ => hS3, parts_step hs hd [] tail _ _ a2 w2 ht2 hl3 hS3 h4⟩
  · cases hrest
end
end Go.Proofs.Ytjjjgnaihnknjaa
