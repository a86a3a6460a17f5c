/- Numbers of two and of eight bytes: laid, taken out of texts. -/
import Derived.Test.YtalnfphlhcojcaaHBlkNum
import Derived.Test.YtalnfphlhcojcaaHSegsS
import Derived.Test.YtalnfphlhcojcaaHDigRow
import Derived.Test.YtalnfphlhcojcaaHSuOpen
import Derived.BigQuiet
import Derived.Deep.QuietTactic
import Derived.Handy
import Derived.Deep.DeepCutAuto
import Derived.Deep.Cut

namespace Go.Proofs.Ytalnfphlhcojcaa
open Go Go.RowKit
set_option linter.unusedSimpArgs false
set_option linter.unusedVariables false
set_option maxRecDepth 20000
/-- the eight bytes that a root block begins with -/
def markB : ByteArray := { data := #[115, 105, 103, 110, 101, 116, 48, 49] }
/-- a root's bytes -/
def suB (x : Sup) : Nat → Nat := fun j => if j < 8 then tbyte markB j else if j < 12 then dig x.b.toNat (j - 8) else if j < 16 then 0 else if j < 24 then dig x.c (j - 16) else if j < 28 then dig x.th.toNat (j - 24) else if j < 32 then dig x.n.toNat (j - 28) else if j < 68 then encR x.tr (j - 32) else if j < 72 then dig x.mh.toNat (j - 68) else if j < 108 then encR x.mr (j - 72) else if j < 112 then dig x.u.toNat (j - 108) else 0
theorem su_dig (n i : Nat) : dig n i < 256 := by unfold dig; omega
theorem suB_lt (x : Sup) (hx : SuW x) (j : Nat) : suB x j < 256 := by
  unfold suB
  repeat' split
  all_goals first | exact su_dig _ _ | exact tbyte_lt _ _ | (exact encR_lt _ hx.td _ (by omega)) | (exact encR_lt _ hx.md _ (by omega)) | omega
theorem slay_str (f : Nat → Nat) (r n : Nat) (g : Nat → Nat) (hg : ∀ j, j < n → g j < 256) : bkV (putAt f r (strN g n).size (tbyte (strN g n))) = bkV (putAt f r n g) := bkV_congr fun i hi => by
  rw [strN_size]
  unfold putAt
  by_cases h : r ≤ i ∧ i < r + n
  · rw [if_pos h, if_pos h, strN_at _ _ _ (by omega) (hg _ (by omega))]
  · rw [if_neg h, if_neg h]
theorem slay32 (f : Nat → Nat) (r x : Nat) (h : r + 4 ≤ 256) (w : World) : Calls Try.prog 20 #[bkV f, .int .i64 (r : Int), .int .u32 (x : Int)] w fun e w' => e = .returned (.tuple #[bkV (putAt f r 4 (dig x)), .int .i64 0]) ∧ Below w.heap.size w w' := by
  refine lay32_by f r x _ 0 (fun w => ?_) w
  have := lay_fit f r (strN (dig x) 4) (by rw [strN_size]; exact h) w
  rw [slay_str f r 4 (dig x) fun j _ => su_dig _ _] at this
  exact this
theorem slay64 (f : Nat → Nat) (r x : Nat) (h : r + 8 ≤ 256) (w : World) : Calls Try.prog 21 #[bkV f, .int .i64 (r : Int), .int .u64 (x : Int)] w fun e w' => e = .returned (.tuple #[bkV (putAt f r 8 (dig x)), .int .i64 0]) ∧ Below w.heap.size w w' := by
  refine lay64_by f r x _ 0 (fun w => ?_) w
  have := lay_fit f r (strN (dig x) 8) (by rw [strN_size]; exact h) w
  rw [slay_str f r 8 (dig x) fun j _ => su_dig _ _] at this
  exact this
theorem slayR (f : Nat → Nat) (r : Nat) (x : Rf) (hx : okD x.2) (h : r + 36 ≤ 256) (w : World) : Calls Try.prog 22 #[bkV f, .int .i64 (r : Int), .string (strN (encR x) 36)] w fun e w' => e = .returned (.tuple #[bkV (putAt f r 36 (encR x)), .int .i64 0]) ∧ Below w.heap.size w w' := by
  have := lay_fit f r (strN (encR x) 36) (by rw [strN_size]; exact h) w
  rw [slay_str f r 36 (encR x) fun j hj => encR_lt _ hx _ hj] at this
  exact this
theorem suB_nest (x : Sup) : bkV (putAt (putAt (putAt (putAt (putAt (putAt (putAt (putAt (tbyte markB) 8 4 (dig x.b.toNat)) 16 8 (dig x.c)) 24 4 (dig x.th.toNat)) 28 4 (dig x.n.toNat)) 32 36 (encR x.tr)) 68 4 (dig x.mh.toNat)) 72 36 (encR x.mr)) 108 4 (dig x.u.toNat)) = bkV (suB x) := bkV_congr fun i hi => by
  unfold suB putAt
  by_cases h0 : i < 8
  · rw [if_neg (by omega), if_neg (by omega), if_neg (by omega), if_neg (by omega), if_neg (by omega), if_neg (by omega), if_neg (by omega), if_neg (by omega)]; rw [if_pos (by omega)]
  · skip
    by_cases h1 : i < 12
    · rw [if_neg (by omega), if_neg (by omega), if_neg (by omega), if_neg (by omega), if_neg (by omega), if_neg (by omega), if_neg (by omega), if_pos (by omega)]; rw [if_neg (by omega), if_pos (by omega)]
    · skip
      by_cases h2 : i < 16
      · rw [if_neg (by omega), if_neg (by omega), if_neg (by omega), if_neg (by omega), if_neg (by omega), if_neg (by omega), if_neg (by omega), if_neg (by omega)]; rw [if_neg (by omega), if_neg (by omega), if_pos (by omega)]; exact tbyte_out _ _ (by show 8 ≤ i; omega)
      · skip
        by_cases h3 : i < 24
        · rw [if_neg (by omega), if_neg (by omega), if_neg (by omega), if_neg (by omega), if_neg (by omega), if_neg (by omega), if_pos (by omega)]; rw [if_neg (by omega), if_neg (by omega), if_neg (by omega), if_pos (by omega)]
        · skip
          by_cases h4 : i < 28
          · rw [if_neg (by omega), if_neg (by omega), if_neg (by omega), if_neg (by omega), if_neg (by omega), if_pos (by omega)]; rw [if_neg (by omega), if_neg (by omega), if_neg (by omega), if_neg (by omega), if_pos (by omega)]
          · skip
            by_cases h5 : i < 32
            · rw [if_neg (by omega), if_neg (by omega), if_neg (by omega), if_neg (by omega), if_pos (by omega)]; rw [if_neg (by omega), if_neg (by omega), if_neg (by omega), if_neg (by omega), if_neg (by omega), if_pos (by omega)]
            · skip
              by_cases h6 : i < 68
              · rw [if_neg (by omega), if_neg (by omega), if_neg (by omega), if_pos (by omega)]; rw [if_neg (by omega), if_neg (by omega), if_neg (by omega), if_neg (by omega), if_neg (by omega), if_neg (by omega), if_pos (by omega)]
              · skip
                by_cases h7 : i < 72
                · rw [if_neg (by omega), if_neg (by omega), if_pos (by omega)]; rw [if_neg (by omega), if_neg (by omega), if_neg (by omega), if_neg (by omega), if_neg (by omega), if_neg (by omega), if_neg (by omega), if_pos (by omega)]
                · skip
                  by_cases h8 : i < 108
                  · rw [if_neg (by omega), if_pos (by omega)]; rw [if_neg (by omega), if_neg (by omega), if_neg (by omega), if_neg (by omega), if_neg (by omega), if_neg (by omega), if_neg (by omega), if_neg (by omega), if_pos (by omega)]
                  · skip
                    by_cases h9 : i < 112
                    · rw [if_pos (by omega)]; rw [if_neg (by omega), if_neg (by omega), if_neg (by omega), if_neg (by omega), if_neg (by omega), if_neg (by omega), if_neg (by omega), if_neg (by omega), if_neg (by omega), if_pos (by omega)]
                    · skip
                      rw [if_neg (by omega), if_neg (by omega), if_neg (by omega), if_neg (by omega), if_neg (by omega), if_neg (by omega), if_neg (by omega), if_neg (by omega)]; rw [if_neg (by omega), if_neg (by omega), if_neg (by omega), if_neg (by omega), if_neg (by omega), if_neg (by omega), if_neg (by omega), if_neg (by omega), if_neg (by omega), if_neg (by omega)]; exact tbyte_out _ _ (by show 8 ≤ i; omega)
theorem sck_all (x : Sup) (h : sck x = true) : (16 ≤ x.b ∧ x.b ≤ 8192) ∧ (3 ≤ x.u ∧ x.u < x.b) ∧ (1 ≤ x.n ∧ x.n ≤ 4096) ∧ (x.th = hL 4 x.n ∧ x.mh = hL 1024 x.b) ∧ (0 ≤ x.th ∧ x.th ≤ 6) ∧ (0 ≤ x.mh ∧ x.mh ≤ 6) ∧ (x.tr.1 ≠ 0 ∧ (x.tr.1 : Int) < x.b) ∧ (x.mr.1 ≠ 0 ∧ (x.mr.1 : Int) < x.b) ∧ x.tr.1 ≠ x.mr.1 := by
  unfold sck sDisk sHgt sPl rBl onD at h
  simp only [Bool.and_eq_true, decide_eq_true_eq] at h
  obtain ⟨⟨⟨a1, a2⟩, a3, a4⟩, ⟨⟨b1, b2⟩, b3, b4⟩, ⟨c1, c2⟩, ⟨c3, c4⟩, c5⟩ := h
  have q1 := hL_lt 4 x.n
  have q2 := hL_lt 1024 x.b
  exact ⟨⟨a1, a2⟩, ⟨a3, a4⟩, ⟨b1, b2⟩, ⟨b3, b4⟩, ⟨by omega, by omega⟩, ⟨by omega, by omega⟩, ⟨c1, c2⟩, ⟨c3, c4⟩, c5⟩
/-- what lies in the memory while Encode works: the root, the result, the block that grows -/
structure ES (w0 w : World) (x : Sup) (h : Nat) (F : Nat → Nat) : Prop where
  b : Below w0.heap.size w0 w
  x : Blk w w0.heap.size 31 (suC x)
  r : Blk w (w0.heap.size + 1) 33 (va 256 (iv .u8 fun _ => 0))
  f : Blk w h 33 (va 256 (iv .u8 F))
  lt : w0.heap.size + 1 < h
theorem ES.below {w0 w w' : World} {x : Sup} {h : Nat} {F : Nat → Nat} (e : ES w0 w x h F) (b : Below w.heap.size w w') : ES w0 w' x h F :=
  ⟨e.b.trans (b.mono e.b.size), e.x.below b e.x.lt, e.r.below b e.r.lt, e.f.below b e.f.lt, e.lt⟩
theorem ES.drew {w0 w : World} {x : Sup} {h : Nat} {F : Nat → Nat} (e : ES w0 w x h F) : ES w0 w.drew x h F := ⟨e.b.drew, e.x.drew, e.r.drew, e.f.drew, e.lt⟩
theorem ES.set {w0 w : World} {x : Sup} {h : Nat} {F : Nat → Nat} (e : ES w0 w x h F) (G : Nat → Nat) : ES w0 (w.setRow h (va 256 (iv .u8 G))) x h G :=
  ⟨below_setRow e.b (by have := e.lt; omega) _, e.x.other _ (by have := e.lt; omega), e.r.other _ (by have := e.lt; omega), e.f.set _, e.lt⟩
theorem su_rangeT {w : World} {g : Nat} {x : Sup} (h : Blk w g 31 (suC x)) : w.rangeAt g 3 ((List.range 33).map (rfF x.tr.1 x.tr.2)) := by
  have q := World.rangeAt_of_block (b := g) h 3 33
  rw [su_tref] at q
  unfold rfC at q
  rwa [va_toList] at q
theorem su_rangeM {w : World} {g : Nat} {x : Sup} (h : Blk w g 31 (suC x)) : w.rangeAt g 38 ((List.range 33).map (rfF x.mr.1 x.mr.2)) := by
  have q := World.rangeAt_of_block (b := g) h 38 33
  rw [su_mref] at q
  unfold rfC at q
  rwa [va_toList] at q
end Go.Proofs.Ytalnfphlhcojcaa

namespace Go.Proofs.Ytalnfphlhcojcaa
open Go Go.RowKit

/-- the plan of a region's walk -/
inductive Plan where
  | fin (takes : List Nat)
  | force (ts : List Nat) (i : Nat) (next : Plan)
  | yield (ts : List Nat) (i : Nat) (next : Plan)
  | fork (i j : Nat) (p q : Plan)
def Plan.len : Plan → Nat
  | .fin takes => takes.length
  | .force ts _ p => ts.length + (1 + p.len)
  | .yield ts _ p => ts.length + (1 + p.len)
  | .fork _ _ p _ => p.len + 1
/-- the check -/
def Plan.ok (ops : Array Oper) : Plan → Array Bool → Bool
  | .fin takes, listed => match takesB .any ops [] [] takes listed with
    | some l => (Region.ready .any ops l).isEmpty
    | none => false
  | .force ts i p, listed => match takesB .any ops [] [] ts listed with
    | some l => forceW .any ops l i && p.ok ops (l.setIfInBounds i true)
    | none => false
  | .yield ts i p, listed => match takesB .any ops [] [] ts listed with
    | some l => yieldW .any ops l [] i && p.ok ops (l.setIfInBounds i true)
    | none => false
  | .fork i j p q, listed => Region.ready .any ops listed == [i, j] && (ops[i]?).isSome && (ops[j]?).isSome && p.len == q.len && p.ok ops (listed.setIfInBounds i true) && q.ok ops (listed.setIfInBounds j true)
def Plan.whole (ops : Array Oper) (p : Plan) : Bool := p.len == ops.size && Region.noSelect ops && p.ok ops (Array.replicate ops.size false)
section
variable {P : Program} {ops : Array Oper} {Q : Exit → Act → World → Prop} {S : World → Prop}
/-- the walk -/
def wpPlan (P : Program) (ops : Array Oper) (Q : Exit → Act → World → Prop) (S : World → Prop) : Plan → Act → World → Prop
  | .fin takes, a, w => wpList P ops (Strict Q) (takes.filterMap fun i => ops[i]?) a w
  | .force ts i p, a, w => wpList P ops (Strict fun _ a' w' => S w' ∧ wpPlan P ops Q S p a' w') ((ts ++ [i]).filterMap fun i => ops[i]?) a w
  | .yield ts i p, a, w => wpList P ops (Strict fun _ a' w' => ∃ o v, ops[i]? = some o ∧ YieldsIf P ops S o v a' ∧ wpPlan P ops Q S p (a'.put o.dst v) w') ((ts ++ []).filterMap fun i => ops[i]?) a w
  | .fork i j p q, a, w => wpList P ops (Strict fun _ a' w' => S w' ∧ wpPlan P ops Q S p a' w') ([i].filterMap fun i => ops[i]?) a w ∧ wpList P ops (Strict fun _ a' w' => S w' ∧ wpPlan P ops Q S q a' w') ([j].filterMap fun i => ops[i]?) a w
theorem plan_step (hs : Region.noSelect ops = true) : ∀ (p : Plan) (listed : Array Bool) (a : Act) (w : World), p.ok ops listed = true → S w →
      wpPlan P ops Q S p a w → wpAnyW P .any ops (Strict Q) S (([] : List Nat).contains ·) p.len listed a w
  | .fin takes, listed, a, w, hb, hS, h => by
    unfold Plan.ok at hb
    split at hb
    · rename_i l2 hl2
      have h2 : wpList P ops (Strict Q) ((takes ++ []).filterMap fun i => ops[i]?) a w := by
        rw [List.append_nil]
        exact h
      exact takesS_step hs [] 0 Q takes listed l2 a w hl2 (fun a' w' _ h' => ⟨by simpa using hb, h'⟩) hS h2
    · cases hb
  | .force ts i p, listed, a, w, hb, hS, h => by
    unfold Plan.ok at hb
    split at hb
    · rename_i l2 hl2
      simp only [Bool.and_eq_true] at hb
      refine takesS_step hs [i] _ _ ts listed l2 a w hl2 (fun a' w' _ h' => ?_) hS h
      obtain ⟨o, ho⟩ := has_op' hb.1
      rw [Nat.add_comm 1]
      refine forceS_step hb.1 (wpOp_mono (fun a2 w2 h2 => ?_) (wpOp_strict (wpList_one ho h')))
      have h3 := h2.2
      exact ⟨fun _ => h3.1, plan_step hs p _ a2 w2 hb.2 h3.1 h3.2⟩
    · cases hb
  | .yield ts i p, listed, a, w, hb, hS, h => by
    unfold Plan.ok at hb
    split at hb
    · rename_i l2 hl2
      simp only [Bool.and_eq_true] at hb
      refine takesS_step hs [] _ _ ts listed l2 a w hl2 (fun a' w' hS' h' => ?_) hS h
      obtain ⟨-, o, v, ho, hy, hn⟩ := h'
      have hc := hb.1
      unfold yieldW at hc
      rw [ho] at hc
      simp only [Bool.and_eq_true, Bool.not_eq_true'] at hc
      rw [Nat.add_comm 1]
      exact takeS_gen hs ho hc.1.1.1 hc.1.1.2 hc.1.2 hc.2 hy hS' (plan_step hs p _ _ w' hb.2 hS' hn)
    · cases hb
  | .fork i j p q, listed, a, w, hb, hS, h => by
    simp only [Plan.ok, Bool.and_eq_true, beq_iff_eq] at hb
    obtain ⟨⟨⟨⟨⟨hr, hi⟩, hj⟩, hl⟩, hp⟩, hq⟩ := hb
    refine ⟨fun h0 => (by rw [h0] at hr; cases hr), fun x hx => ?_⟩
    rw [hr] at hx
    have hx2 : x = i ∨ x = j := by simpa using hx
    rcases hx2 with rfl | rfl
    · obtain ⟨o, ho⟩ := Option.isSome_iff_exists.1 hi
      refine wpOp_mono (fun a' w' h' => ?_) (wpOp_strict (wpList_one ho h.1))
      exact ⟨fun _ => h'.2.1, plan_step hs p _ a' w' hp h'.2.1 h'.2.2⟩
    · obtain ⟨o, ho⟩ := Option.isSome_iff_exists.1 hj
      refine wpOp_mono (fun a' w' h' => ?_) (wpOp_strict (wpList_one ho h.2))
      have := plan_step hs q _ a' w' hq h'.2.1 h'.2.2
      rw [← hl] at this
      exact ⟨fun _ => h'.2.1, this⟩
/-- THE LAW. -/
theorem wp_region_plan {id : Nat} {a : Act} {w : World} (S : World → Prop) (p : Plan) (hm : P.follows .mixedOrders = true) (hB : p.whole ops = true)
    (hS : S w.drew) (h : wpPlan P ops Q S p a w.drew) : (Code.region id ops true).wp P Q a w := by
  unfold Plan.whole at hB
  simp only [Bool.and_eq_true, beq_iff_eq] at hB
  refine Code.wp_mono Strict.imp (wp_region_any hm ?_)
  rw [← hB.1.1]
  exact wpAny_of_W _ _ _ _ (plan_step hB.1.2 p _ a _ (by rw [hB.1.1]; exact hB.2) hS h)
theorem plan_force {ts : List Nat} {i : Nat} {p : Plan} {a : Act} {w : World}
    (h : wpList P ops (Strict fun _ a' w' => S w' ∧ wpPlan P ops Q S p a' w') ((ts ++ [i]).filterMap fun i => ops[i]?) a w) : wpPlan P ops Q S (.force ts i p) a w := h
theorem plan_yield {ts : List Nat} {i : Nat} {p : Plan} {a : Act} {w : World}
    (h : wpList P ops (Strict fun _ a' w' => ∃ o v, ops[i]? = some o ∧ YieldsIf P ops S o v a' ∧ wpPlan P ops Q S p (a'.put o.dst v) w') ((ts ++ []).filterMap fun i => ops[i]?) a w) : wpPlan P ops Q S (.yield ts i p) a w := h
theorem plan_fork {i j : Nat} {p q : Plan} {a : Act} {w : World} (h1 : wpList P ops (Strict fun _ a' w' => S w' ∧ wpPlan P ops Q S p a' w') ([i].filterMap fun i => ops[i]?) a w)
    (h2 : wpList P ops (Strict fun _ a' w' => S w' ∧ wpPlan P ops Q S q a' w') ([j].filterMap fun i => ops[i]?) a w) : wpPlan P ops Q S (.fork i j p q) a w := ⟨h1, h2⟩
theorem plan_fin {takes : List Nat} {a : Act} {w : World} (h : wpList P ops (Strict Q) (takes.filterMap fun i => ops[i]?) a w) : wpPlan P ops Q S (.fin takes) a w := h
end
end Go.Proofs.Ytalnfphlhcojcaa

namespace Go.Proofs.Ytalnfphlhcojcaa
open Go Go.RowKit
set_option linter.unusedSimpArgs false
set_option linter.unusedVariables false
set_option maxRecDepth 20000
set_option maxRecDepth 100000 in
set_option maxHeartbeats 4000000 in
theorem sencode_no (x : Sup) (hx : SuW x) (hc : sck x = false) (w : World) : Calls Try.prog 7 #[.agg (suC x)] w fun e w' => e = .returned (.tuple #[bkV fun _ => 0, .int .i64 200]) ∧ Below w.heap.size w w' := by
  unfold bkV
  have hz := zero_bk
  have HC : Hid (∀ w, Calls Try.prog 10 #[.agg (suC x)] w fun e w' => e = .returned (.int .i64 200) ∧ Below w.heap.size w w') := by
    have := scheck_any x hx
    rw [show scE x = 200 by unfold scE; rw [hc]; rfl] at this
    exact this
  have r0 : Blk ((w.alloc (.cells (suC x) 31)).alloc (.cells (va 256 (iv .u8 fun _ => 0)) 33)) w.heap.size 31 (suC x) := (Blk.new _ _ _).alloc _
  have r1 : Blk ((w.alloc (.cells (suC x) 31)).alloc (.cells (va 256 (iv .u8 fun _ => 0)) 33)) (w.heap.size + 1) 33 (va 256 (iv .u8 fun _ => 0)) := Blk.new1 _ _ _ _
  have hb : Below w.heap.size w ((w.alloc (.cells (suC x) 31)).alloc (.cells (va 256 (iv .u8 fun _ => 0)) 33)) := below_new2 _ _ _
  go_enter Try.func7, Try.ntmps7
  go_wp2_with (first | (refine wpList_load_rowg (by rfl) 31 _ (by rfl) (w.heap.size) (by rfl) 31 (suC x) (0, 0) _ (by exact r0) Try.underlying31 (by rfl) (sizeSup.trans (by rw [suC_size])) ?_; simp only [Act.put, List.setIfInBounds_toArray, List.set_cons_zero, List.set_cons_succ]) | fail)
  generalize ((w.alloc (.cells (suC x) 31)).alloc (.cells (va 256 (iv .u8 fun _ => 0)) 33)) = W at *
  refine (HC.out _).mono ?_
  rintro e w1 ⟨rfl, hb1⟩
  have r2 := r1.below hb1 r1.lt
  have hb2 : Below w.heap.size w w1 := hb.trans (hb1.mono hb.size)
  clear r0 r1 hb hb1
  go_wp2_with (first | (refine wpList_store_row (by rfl) 33 _ _ (by rfl) (w.heap.size + 1) (va 256 (iv .u8 (fun _ => 0))) (by rfl) (by rfl) 33 (_) (by exact r2) (sizeBk.trans (by rw [va_size])) (by simp only [va_size]) (iv_one _ _ _) ?_; simp only [Act.put, List.setIfInBounds_toArray, List.set_cons_zero, List.set_cons_succ]) | fail)
  try simp only [Exit.inBlock, Exit.then]
  refine bodyPost_ret (results_row2 Try.results7 _ _ (w.heap.size + 1) 33 (va 256 (iv .u8 (fun _ => 0))) (0, 0) _ rfl (r2.set _) Try.underlying33 rfl (sizeBk.trans (by rw [va_size]))) rfl ?_
  exact ⟨rfl, below_setRow hb2 (Nat.le_succ _) _⟩
set_option maxRecDepth 100000 in
set_option maxHeartbeats 4000000 in
theorem sencode_ok (x : Sup) (hx : SuW x) (hc : sck x = true) (w : World) : Calls Try.prog 7 #[.agg (suC x)] w fun e w' => e = .returned (.tuple #[bkV (suB x), .int .i64 0]) ∧ Below w.heap.size w w' := by
  rw [← suB_nest x]
  have hz := zero_bk
  have HC : Hid (∀ w, Calls Try.prog 10 #[.agg (suC x)] w fun e w' => e = .returned (.int .i64 0) ∧ Below w.heap.size w w') := by
    have := scheck_any x hx
    rw [show scE x = 0 by unfold scE; rw [hc]; rfl] at this
    exact this
  have HM : Hid (∀ w, Calls Try.prog 19 #[.string { data := #[115, 105, 103, 110, 101, 116, 48, 49] }] w fun e w' => e = .returned (.tuple #[bkV (tbyte markB), .int .i64 0]) ∧ Below w.heap.size w w') := fun w => blockOf_fit markB (by decide) w
  have HT : Hid (∀ w, Calls Try.prog 23 #[.agg (rfC x.tr)] w fun e w' => e = .returned (.string (strN (encR x.tr) 36)) ∧ Below w.heap.size w w') := encR_any x.tr hx.td
  have HU : Hid (∀ w, Calls Try.prog 23 #[.agg (rfC x.mr)] w fun e w' => e = .returned (.string (strN (encR x.mr) 36)) ∧ Below w.heap.size w w') := encR_any x.mr hx.md
  have L0 : Hid (∀ w, Calls Try.prog 20 #[bkV (tbyte markB), .int .i64 8, .int .u32 ((x.b.toNat : Nat) : Int)] w fun e w' => e = .returned (.tuple #[bkV (putAt (tbyte markB) 8 4 (dig x.b.toNat)), .int .i64 0]) ∧ Below w.heap.size w w') := slay32 _ 8 _ (by decide)
  have L1 : Hid (∀ w, Calls Try.prog 21 #[bkV (putAt (tbyte markB) 8 4 (dig x.b.toNat)), .int .i64 16, .int .u64 ((x.c : Nat) : Int)] w fun e w' => e = .returned (.tuple #[bkV (putAt (putAt (tbyte markB) 8 4 (dig x.b.toNat)) 16 8 (dig x.c)), .int .i64 0]) ∧ Below w.heap.size w w') := slay64 _ 16 _ (by decide)
  have L2 : Hid (∀ w, Calls Try.prog 20 #[bkV (putAt (putAt (tbyte markB) 8 4 (dig x.b.toNat)) 16 8 (dig x.c)), .int .i64 24, .int .u32 ((x.th.toNat : Nat) : Int)] w fun e w' => e = .returned (.tuple #[bkV (putAt (putAt (putAt (tbyte markB) 8 4 (dig x.b.toNat)) 16 8 (dig x.c)) 24 4 (dig x.th.toNat)), .int .i64 0]) ∧ Below w.heap.size w w') := slay32 _ 24 _ (by decide)
  have L3 : Hid (∀ w, Calls Try.prog 20 #[bkV (putAt (putAt (putAt (tbyte markB) 8 4 (dig x.b.toNat)) 16 8 (dig x.c)) 24 4 (dig x.th.toNat)), .int .i64 28, .int .u32 ((x.n.toNat : Nat) : Int)] w fun e w' => e = .returned (.tuple #[bkV (putAt (putAt (putAt (putAt (tbyte markB) 8 4 (dig x.b.toNat)) 16 8 (dig x.c)) 24 4 (dig x.th.toNat)) 28 4 (dig x.n.toNat)), .int .i64 0]) ∧ Below w.heap.size w w') := slay32 _ 28 _ (by decide)
  have L4 : Hid (∀ w, Calls Try.prog 22 #[bkV (putAt (putAt (putAt (putAt (tbyte markB) 8 4 (dig x.b.toNat)) 16 8 (dig x.c)) 24 4 (dig x.th.toNat)) 28 4 (dig x.n.toNat)), .int .i64 32, .string (strN (encR x.tr) 36)] w fun e w' => e = .returned (.tuple #[bkV (putAt (putAt (putAt (putAt (putAt (tbyte markB) 8 4 (dig x.b.toNat)) 16 8 (dig x.c)) 24 4 (dig x.th.toNat)) 28 4 (dig x.n.toNat)) 32 36 (encR x.tr)), .int .i64 0]) ∧ Below w.heap.size w w') := slayR _ 32 _ hx.td (by decide)
  have L5 : Hid (∀ w, Calls Try.prog 20 #[bkV (putAt (putAt (putAt (putAt (putAt (tbyte markB) 8 4 (dig x.b.toNat)) 16 8 (dig x.c)) 24 4 (dig x.th.toNat)) 28 4 (dig x.n.toNat)) 32 36 (encR x.tr)), .int .i64 68, .int .u32 ((x.mh.toNat : Nat) : Int)] w fun e w' => e = .returned (.tuple #[bkV (putAt (putAt (putAt (putAt (putAt (putAt (tbyte markB) 8 4 (dig x.b.toNat)) 16 8 (dig x.c)) 24 4 (dig x.th.toNat)) 28 4 (dig x.n.toNat)) 32 36 (encR x.tr)) 68 4 (dig x.mh.toNat)), .int .i64 0]) ∧ Below w.heap.size w w') := slay32 _ 68 _ (by decide)
  have L6 : Hid (∀ w, Calls Try.prog 22 #[bkV (putAt (putAt (putAt (putAt (putAt (putAt (tbyte markB) 8 4 (dig x.b.toNat)) 16 8 (dig x.c)) 24 4 (dig x.th.toNat)) 28 4 (dig x.n.toNat)) 32 36 (encR x.tr)) 68 4 (dig x.mh.toNat)), .int .i64 72, .string (strN (encR x.mr) 36)] w fun e w' => e = .returned (.tuple #[bkV (putAt (putAt (putAt (putAt (putAt (putAt (putAt (tbyte markB) 8 4 (dig x.b.toNat)) 16 8 (dig x.c)) 24 4 (dig x.th.toNat)) 28 4 (dig x.n.toNat)) 32 36 (encR x.tr)) 68 4 (dig x.mh.toNat)) 72 36 (encR x.mr)), .int .i64 0]) ∧ Below w.heap.size w w') := slayR _ 72 _ hx.md (by decide)
  have L7 : Hid (∀ w, Calls Try.prog 20 #[bkV (putAt (putAt (putAt (putAt (putAt (putAt (putAt (tbyte markB) 8 4 (dig x.b.toNat)) 16 8 (dig x.c)) 24 4 (dig x.th.toNat)) 28 4 (dig x.n.toNat)) 32 36 (encR x.tr)) 68 4 (dig x.mh.toNat)) 72 36 (encR x.mr)), .int .i64 108, .int .u32 ((x.u.toNat : Nat) : Int)] w fun e w' => e = .returned (.tuple #[bkV (putAt (putAt (putAt (putAt (putAt (putAt (putAt (putAt (tbyte markB) 8 4 (dig x.b.toNat)) 16 8 (dig x.c)) 24 4 (dig x.th.toNat)) 28 4 (dig x.n.toNat)) 32 36 (encR x.tr)) 68 4 (dig x.mh.toNat)) 72 36 (encR x.mr)) 108 4 (dig x.u.toNat)), .int .i64 0]) ∧ Below w.heap.size w w') := slay32 _ 108 _ (by decide)
  have hk := sck_all x hc
  have Kb : ((x.b.toNat : Nat) : Int) = x.b := by omega
  have Mb : x.b % 4294967296 = x.b := by omega
  have Vb : IntKind.u32.wrap x.b = x.b := by rw [IntKind.wrap_u32]; omega
  have Kth : ((x.th.toNat : Nat) : Int) = x.th := by omega
  have Mth : x.th % 4294967296 = x.th := by omega
  have Vth : IntKind.u32.wrap x.th = x.th := by rw [IntKind.wrap_u32]; omega
  have Kn : ((x.n.toNat : Nat) : Int) = x.n := by omega
  have Mn : x.n % 4294967296 = x.n := by omega
  have Vn : IntKind.u32.wrap x.n = x.n := by rw [IntKind.wrap_u32]; omega
  have Kmh : ((x.mh.toNat : Nat) : Int) = x.mh := by omega
  have Mmh : x.mh % 4294967296 = x.mh := by omega
  have Vmh : IntKind.u32.wrap x.mh = x.mh := by rw [IntKind.wrap_u32]; omega
  have Ku : ((x.u.toNat : Nat) : Int) = x.u := by omega
  have Mu : x.u % 4294967296 = x.u := by omega
  have Vu : IntKind.u32.wrap x.u = x.u := by rw [IntKind.wrap_u32]; omega
  rw [Kb] at L0
  rw [Kth] at L2
  rw [Kn] at L3
  rw [Kmh] at L5
  rw [Ku] at L7
  clear Kb Kth Kn Kmh Ku hk
  generalize tbyte markB = F0 at *
  generalize putAt F0 8 4 (dig x.b.toNat) = F1 at *
  generalize putAt F1 16 8 (dig x.c) = F2 at *
  generalize putAt F2 24 4 (dig x.th.toNat) = F3 at *
  generalize putAt F3 28 4 (dig x.n.toNat) = F4 at *
  generalize putAt F4 32 36 (encR x.tr) = F5 at *
  generalize putAt F5 68 4 (dig x.mh.toNat) = F6 at *
  generalize putAt F6 72 36 (encR x.mr) = F7 at *
  generalize putAt F7 108 4 (dig x.u.toNat) = F8 at *
  generalize hT : strN (encR x.tr) 36 = TS at *
  generalize hU : strN (encR x.mr) 36 = US at *
  clear hT hU
  unfold bkV at *
  have r0 : Blk ((w.alloc (.cells (suC x) 31)).alloc (.cells (va 256 (iv .u8 fun _ => 0)) 33)) w.heap.size 31 (suC x) := (Blk.new _ _ _).alloc _
  have r1 : Blk ((w.alloc (.cells (suC x) 31)).alloc (.cells (va 256 (iv .u8 fun _ => 0)) 33)) (w.heap.size + 1) 33 (va 256 (iv .u8 fun _ => 0)) := Blk.new1 _ _ _ _
  have hb : Below w.heap.size w ((w.alloc (.cells (suC x) 31)).alloc (.cells (va 256 (iv .u8 fun _ => 0)) 33)) := below_new2 _ _ _
  go_enter Try.func7, Try.ntmps7
  go_wp2_with (first | (refine wpList_load_rowg (by rfl) 31 _ (by rfl) (w.heap.size) (by rfl) 31 (suC x) (0, 0) _ (by exact r0) Try.underlying31 (by rfl) (sizeSup.trans (by rw [suC_size])) ?_; simp only [Act.put, List.setIfInBounds_toArray, List.set_cons_zero, List.set_cons_succ]) | fail)
  generalize ((w.alloc (.cells (suC x) 31)).alloc (.cells (va 256 (iv .u8 fun _ => 0)) 33)) = W at *
  refine (HC.out _).mono ?_
  rintro e w1 ⟨rfl, hb1⟩
  have q1 := r1.below hb1 r1.lt
  have q0 := r0.below hb1 r0.lt
  have hb2 : Below w.heap.size w w1 := hb.trans (hb1.mono hb.size)
  clear r0 r1 hb hb1 HC
  go_wp2_with fail
  refine (HM.out _).mono ?_
  rintro e w2 ⟨rfl, hb3⟩
  have p1 := q1.below hb3 q1.lt
  have p0 := q0.below hb3 q0.lt
  have hb4 : Below w.heap.size w w2 := hb2.trans (hb3.mono hb2.size)
  clear q0 q1 hb2 hb3 HM
  have f0 : Blk (w2.alloc (.cells (va 256 (iv .u8 fun _ => 0)) 33)) w2.heap.size 33 (va 256 (iv .u8 fun _ => 0)) := Blk.new _ _ _
  have e0 : Hid (ES w ((w2.alloc (.cells (va 256 (iv .u8 fun _ => 0)) 33)).setRow w2.heap.size (va 256 (iv .u8 F0))) x w2.heap.size F0) := ES.set (F := fun _ => 0) ⟨hb4.alloc hb4.size _, p0.alloc _, p1.alloc _, f0, p1.lt⟩ F0
  have c := sup_c0 e0.out.x
  clear p0 p1 hb4
  go_wp2_with (first | (refine wpList_store_row (by rfl) 33 _ _ (by rfl) (w2.heap.size) (va 256 (iv .u8 (F0))) (by rfl) (by rfl) 33 (_) (by exact f0) (sizeBk.trans (by rw [va_size])) (by simp only [va_size]) (iv_one _ _ _) ?_; simp only [Act.put, List.setIfInBounds_toArray, List.set_cons_zero, List.set_cons_succ]) | (refine wpList_load_rowg (by rfl) 33 _ (by rfl) (w2.heap.size) (by rfl) 33 (va 256 (iv .u8 (F0))) (0, 0) _ (by exact e0.out.f) Try.underlying33 (by rfl) (sizeBk.trans (by rw [va_size])) ?_; simp only [Act.put, List.setIfInBounds_toArray, List.set_cons_zero, List.set_cons_succ]) | fail)
  clear f0 c
  generalize ((w2.alloc (.cells (va 256 (iv .u8 fun _ => 0)) 33)).setRow w2.heap.size (va 256 (iv .u8 F0))) = v0 at *
  generalize w2.heap.size = h at *
  refine (L0.out _).mono ?_
  rintro e u0 ⟨rfl, hb0⟩
  have d0 : Hid (ES w u0 x h F0) := e0.out.below hb0
  have e1 : Hid (ES w (u0.setRow h (va 256 (iv .u8 F1))) x h F1) := d0.out.set _
  clear hb0 e0 L0
  have c := sup_c1 e1.out.x
  go_wp2_with (first | (refine wpList_store_row (by rfl) 33 _ _ (by rfl) (h) (va 256 (iv .u8 (F1))) (by rfl) (by rfl) 33 (_) (by exact d0.out.f) (sizeBk.trans (by rw [va_size])) (by simp only [va_size]) (iv_one _ _ _) ?_; simp only [Act.put, List.setIfInBounds_toArray, List.set_cons_zero, List.set_cons_succ]) | (refine wpList_load_rowg (by rfl) 33 _ (by rfl) (h) (by rfl) 33 (va 256 (iv .u8 (F1))) (0, 0) _ (by exact e1.out.f) Try.underlying33 (by rfl) (sizeBk.trans (by rw [va_size])) ?_; simp only [Act.put, List.setIfInBounds_toArray, List.set_cons_zero, List.set_cons_succ]) | fail)
  clear c d0
  generalize (u0.setRow h (va 256 (iv .u8 F1))) = v1 at *
  refine (L1.out _).mono ?_
  rintro e u1 ⟨rfl, hb1⟩
  have d1 : Hid (ES w u1 x h F1) := e1.out.below hb1
  have e2 : Hid (ES w (u1.setRow h (va 256 (iv .u8 F2))) x h F2) := d1.out.set _
  clear hb1 e1 L1
  have c := sup_c2 e2.out.x
  go_wp2_with (first | (refine wpList_store_row (by rfl) 33 _ _ (by rfl) (h) (va 256 (iv .u8 (F2))) (by rfl) (by rfl) 33 (_) (by exact d1.out.f) (sizeBk.trans (by rw [va_size])) (by simp only [va_size]) (iv_one _ _ _) ?_; simp only [Act.put, List.setIfInBounds_toArray, List.set_cons_zero, List.set_cons_succ]) | (refine wpList_load_rowg (by rfl) 33 _ (by rfl) (h) (by rfl) 33 (va 256 (iv .u8 (F2))) (0, 0) _ (by exact e2.out.f) Try.underlying33 (by rfl) (sizeBk.trans (by rw [va_size])) ?_; simp only [Act.put, List.setIfInBounds_toArray, List.set_cons_zero, List.set_cons_succ]) | fail)
  clear c d1
  generalize (u1.setRow h (va 256 (iv .u8 F2))) = v2 at *
  refine (L2.out _).mono ?_
  rintro e u2 ⟨rfl, hb2⟩
  have d2 : Hid (ES w u2 x h F2) := e2.out.below hb2
  have e3 : Hid (ES w (u2.setRow h (va 256 (iv .u8 F3))) x h F3) := d2.out.set _
  clear hb2 e2 L2
  have c := sup_c36 e3.out.x
  go_wp2_with (first | (refine wpList_store_row (by rfl) 33 _ _ (by rfl) (h) (va 256 (iv .u8 (F3))) (by rfl) (by rfl) 33 (_) (by exact d2.out.f) (sizeBk.trans (by rw [va_size])) (by simp only [va_size]) (iv_one _ _ _) ?_; simp only [Act.put, List.setIfInBounds_toArray, List.set_cons_zero, List.set_cons_succ]) | (refine wpList_load_rowg (by rfl) 33 _ (by rfl) (h) (by rfl) 33 (va 256 (iv .u8 (F3))) (0, 0) _ (by exact e3.out.f) Try.underlying33 (by rfl) (sizeBk.trans (by rw [va_size])) ?_; simp only [Act.put, List.setIfInBounds_toArray, List.set_cons_zero, List.set_cons_succ]) | fail)
  clear c d2
  generalize (u2.setRow h (va 256 (iv .u8 F3))) = v3 at *
  refine (L3.out _).mono ?_
  rintro e u3 ⟨rfl, hb3⟩
  have d3 : Hid (ES w u3 x h F3) := e3.out.below hb3
  have e4 : Hid (ES w (u3.setRow h (va 256 (iv .u8 F4))) x h F4) := d3.out.set _
  clear hb3 e3 L3
  go_wp2_with (first | (refine wpList_store_row (by rfl) 33 _ _ (by rfl) (h) (va 256 (iv .u8 (F4))) (by rfl) (by rfl) 33 (_) (by exact d3.out.f) (sizeBk.trans (by rw [va_size])) (by simp only [va_size]) (iv_one _ _ _) ?_; simp only [Act.put, List.setIfInBounds_toArray, List.set_cons_zero, List.set_cons_succ]) | fail)
  clear d3
  generalize (u3.setRow h (va 256 (iv .u8 F4))) = v4 at *
  have e4d : Hid (ES w v4.drew x h F4) := e4.out.drew
  go_cut [5] (fun v wx => v = .pointer (some ⟨h, 0, none⟩) ∧ Hid (ES w wx x h F5))
  case first =>
    refine wp_region_plan (fun U => Hid (∃ G, ES w U x h G)) (.yield [] 1 (.yield [] 2 (.yield [] 3 (.fork 0 4 (.force [] 4 (.force [] 5 (.force [6, 7, 8] 9 (.fin [])))) (.force [] 0 (.force [] 5 (.force [6, 7, 8] 9 (.fin [])))))))) (by kernel_rfl) (by kernel_rfl) ⟨_, e4d.out⟩ (plan_yield ?_)
    simp only [List.cons_append, List.nil_append, List.append_nil, List.filterMap_cons, List.filterMap_nil, List.getElem?_toArray, List.getElem?_cons_zero, List.getElem?_cons_succ]
    go_wp2_with fail
    refine ⟨rfl, _, .pointer (some ⟨w.heap.size, 2, none⟩), rfl, Or.inl ⟨by rfl, fun W hW => by go_simp⟩, plan_yield ?_⟩
    simp only [Act.put, List.setIfInBounds_toArray, List.set_cons_zero, List.set_cons_succ]
    simp only [List.cons_append, List.nil_append, List.append_nil, List.filterMap_cons, List.filterMap_nil, List.getElem?_toArray, List.getElem?_cons_zero, List.getElem?_cons_succ]
    go_wp2_with fail
    refine ⟨rfl, _, .pointer (some ⟨w.heap.size, 3, none⟩), rfl, Or.inl ⟨by rfl, fun W hW => by go_simp⟩, plan_yield ?_⟩
    simp only [Act.put, List.setIfInBounds_toArray, List.set_cons_zero, List.set_cons_succ]
    simp only [List.cons_append, List.nil_append, List.append_nil, List.filterMap_cons, List.filterMap_nil, List.getElem?_toArray, List.getElem?_cons_zero, List.getElem?_cons_succ]
    go_wp2_with fail
    refine ⟨rfl, _, .agg (rfC x.tr), rfl, yieldsIf_load_mid (by rfl) 27 _ (by rfl) w.heap.size 3 (by rfl) _ _ (fun W hW => su_rangeT (Exists.choose_spec hW.out).x) Try.underlying27 rfl (slSizeRef.trans (by simp)), plan_fork ?_ ?_⟩
    simp only [Act.put, List.setIfInBounds_toArray, List.set_cons_zero, List.set_cons_succ]
    · simp only [List.cons_append, List.nil_append, List.append_nil, List.filterMap_cons, List.filterMap_nil, List.getElem?_toArray, List.getElem?_cons_zero, List.getElem?_cons_succ]
      refine wpList_load_rowg (by rfl) 33 _ (by rfl) (h) (by rfl) 33 (va 256 (iv .u8 F4)) (0, 0) _ (by exact e4d.out.f) Try.underlying33 (by rfl) (sizeBk.trans (by rw [va_size])) ?_
      simp only [Act.put, List.setIfInBounds_toArray, List.set_cons_zero, List.set_cons_succ]
      go_wp2_with fail
      refine ⟨rfl, ⟨_, e4d.out⟩, plan_force ?_⟩
      simp only [List.cons_append, List.nil_append, List.append_nil, List.filterMap_cons, List.filterMap_nil, List.getElem?_toArray, List.getElem?_cons_zero, List.getElem?_cons_succ]
      go_wp2_with fail
      refine (HT.out _).mono ?_
      rintro e y4 ⟨rfl, hy4⟩
      have e4y : Hid (ES w y4 x h F4) := e4d.out.below hy4
      clear hy4
      go_wp2_with fail
      refine ⟨rfl, ⟨_, e4y.out⟩, plan_force ?_⟩
      simp only [List.cons_append, List.nil_append, List.append_nil, List.filterMap_cons, List.filterMap_nil, List.getElem?_toArray, List.getElem?_cons_zero, List.getElem?_cons_succ]
      go_wp2_with fail
      refine (L4.out _).mono ?_
      rintro e u4 ⟨rfl, hb4⟩
      have d4 : Hid (ES w u4 x h F4) := e4y.out.below hb4
      clear hb4
      go_wp2_with fail
      refine ⟨rfl, ⟨_, d4.out⟩, plan_force ?_⟩
      simp only [List.cons_append, List.nil_append, List.append_nil, List.filterMap_cons, List.filterMap_nil, List.getElem?_toArray, List.getElem?_cons_zero, List.getElem?_cons_succ]
      have hst := Blk.store (P := Try.prog) d4.out.f (va 256 (iv .u8 F5)) (by simp only [va_size]) (va_mem_one _ _)
      have hvs := va_size 256 (iv .u8 F5)
      go_wp2_with fail
      refine ⟨rfl, ⟨_, d4.out.set _⟩, plan_fin ?_⟩
      simp only [List.cons_append, List.nil_append, List.append_nil, List.filterMap_cons, List.filterMap_nil, List.getElem?_toArray, List.getElem?_cons_zero, List.getElem?_cons_succ]
      go_wp2_with fail
      refine ⟨rfl, ?_⟩
      go_wp2_with fail
      go_meet
      exact ⟨rfl, d4.out.set _⟩
    · simp only [List.cons_append, List.nil_append, List.append_nil, List.filterMap_cons, List.filterMap_nil, List.getElem?_toArray, List.getElem?_cons_zero, List.getElem?_cons_succ]
      go_wp2_with fail
      refine (HT.out _).mono ?_
      rintro e y4 ⟨rfl, hy4⟩
      have e4y : Hid (ES w y4 x h F4) := e4d.out.below hy4
      clear hy4
      go_wp2_with fail
      refine ⟨rfl, ⟨_, e4y.out⟩, plan_force ?_⟩
      simp only [List.cons_append, List.nil_append, List.append_nil, List.filterMap_cons, List.filterMap_nil, List.getElem?_toArray, List.getElem?_cons_zero, List.getElem?_cons_succ]
      refine wpList_load_rowg (by rfl) 33 _ (by rfl) (h) (by rfl) 33 (va 256 (iv .u8 F4)) (0, 0) _ (by exact e4y.out.f) Try.underlying33 (by rfl) (sizeBk.trans (by rw [va_size])) ?_
      simp only [Act.put, List.setIfInBounds_toArray, List.set_cons_zero, List.set_cons_succ]
      go_wp2_with fail
      refine ⟨rfl, ⟨_, e4y.out⟩, plan_force ?_⟩
      simp only [List.cons_append, List.nil_append, List.append_nil, List.filterMap_cons, List.filterMap_nil, List.getElem?_toArray, List.getElem?_cons_zero, List.getElem?_cons_succ]
      go_wp2_with fail
      refine (L4.out _).mono ?_
      rintro e u4 ⟨rfl, hb4⟩
      have d4 : Hid (ES w u4 x h F4) := e4y.out.below hb4
      clear hb4
      go_wp2_with fail
      refine ⟨rfl, ⟨_, d4.out⟩, plan_force ?_⟩
      simp only [List.cons_append, List.nil_append, List.append_nil, List.filterMap_cons, List.filterMap_nil, List.getElem?_toArray, List.getElem?_cons_zero, List.getElem?_cons_succ]
      have hst := Blk.store (P := Try.prog) d4.out.f (va 256 (iv .u8 F5)) (by simp only [va_size]) (va_mem_one _ _)
      have hvs := va_size 256 (iv .u8 F5)
      go_wp2_with fail
      refine ⟨rfl, ⟨_, d4.out.set _⟩, plan_fin ?_⟩
      simp only [List.cons_append, List.nil_append, List.append_nil, List.filterMap_cons, List.filterMap_nil, List.getElem?_toArray, List.getElem?_cons_zero, List.getElem?_cons_succ]
      go_wp2_with fail
      refine ⟨rfl, ?_⟩
      go_wp2_with fail
      go_meet
      exact ⟨rfl, d4.out.set _⟩
  rename World => v5
  obtain ⟨rfl, e5⟩ := hcut
  clear e4 e4d L4 HT
  have c := sup_c37 e5.out.x
  go_wp2_with (first | (refine wpList_load_rowg (by rfl) 33 _ (by rfl) (h) (by rfl) 33 (va 256 (iv .u8 (F5))) (0, 0) _ (by exact e5.out.f) Try.underlying33 (by rfl) (sizeBk.trans (by rw [va_size])) ?_; simp only [Act.put, List.setIfInBounds_toArray, List.set_cons_zero, List.set_cons_succ]) | fail)
  clear c
  refine (L5.out _).mono ?_
  rintro e u5 ⟨rfl, hb5⟩
  have d5 : Hid (ES w u5 x h F5) := e5.out.below hb5
  have e6 : Hid (ES w (u5.setRow h (va 256 (iv .u8 F6))) x h F6) := d5.out.set _
  clear hb5 e5 L5
  go_wp2_with (first | (refine wpList_store_row (by rfl) 33 _ _ (by rfl) (h) (va 256 (iv .u8 (F6))) (by rfl) (by rfl) 33 (_) (by exact d5.out.f) (sizeBk.trans (by rw [va_size])) (by simp only [va_size]) (iv_one _ _ _) ?_; simp only [Act.put, List.setIfInBounds_toArray, List.set_cons_zero, List.set_cons_succ]) | fail)
  clear d5
  generalize (u5.setRow h (va 256 (iv .u8 F6))) = v6 at *
  have e6d : Hid (ES w v6.drew x h F6) := e6.out.drew
  go_cut [5] (fun v wx => v = .pointer (some ⟨h, 0, none⟩) ∧ Hid (ES w wx x h F7))
  case first =>
    refine wp_region_plan (fun U => Hid (∃ G, ES w U x h G)) (.yield [] 1 (.yield [] 2 (.yield [] 3 (.fork 0 4 (.force [] 4 (.force [] 5 (.force [6, 7, 8] 9 (.fin [])))) (.force [] 0 (.force [] 5 (.force [6, 7, 8] 9 (.fin [])))))))) (by kernel_rfl) (by kernel_rfl) ⟨_, e6d.out⟩ (plan_yield ?_)
    simp only [List.cons_append, List.nil_append, List.append_nil, List.filterMap_cons, List.filterMap_nil, List.getElem?_toArray, List.getElem?_cons_zero, List.getElem?_cons_succ]
    go_wp2_with fail
    refine ⟨rfl, _, .pointer (some ⟨w.heap.size, 37, none⟩), rfl, Or.inl ⟨by rfl, fun W hW => by go_simp⟩, plan_yield ?_⟩
    simp only [Act.put, List.setIfInBounds_toArray, List.set_cons_zero, List.set_cons_succ]
    simp only [List.cons_append, List.nil_append, List.append_nil, List.filterMap_cons, List.filterMap_nil, List.getElem?_toArray, List.getElem?_cons_zero, List.getElem?_cons_succ]
    go_wp2_with fail
    refine ⟨rfl, _, .pointer (some ⟨w.heap.size, 38, none⟩), rfl, Or.inl ⟨by rfl, fun W hW => by go_simp⟩, plan_yield ?_⟩
    simp only [Act.put, List.setIfInBounds_toArray, List.set_cons_zero, List.set_cons_succ]
    simp only [List.cons_append, List.nil_append, List.append_nil, List.filterMap_cons, List.filterMap_nil, List.getElem?_toArray, List.getElem?_cons_zero, List.getElem?_cons_succ]
    go_wp2_with fail
    refine ⟨rfl, _, .agg (rfC x.mr), rfl, yieldsIf_load_mid (by rfl) 27 _ (by rfl) w.heap.size 38 (by rfl) _ _ (fun W hW => su_rangeM (Exists.choose_spec hW.out).x) Try.underlying27 rfl (slSizeRef.trans (by simp)), plan_fork ?_ ?_⟩
    simp only [Act.put, List.setIfInBounds_toArray, List.set_cons_zero, List.set_cons_succ]
    · simp only [List.cons_append, List.nil_append, List.append_nil, List.filterMap_cons, List.filterMap_nil, List.getElem?_toArray, List.getElem?_cons_zero, List.getElem?_cons_succ]
      refine wpList_load_rowg (by rfl) 33 _ (by rfl) (h) (by rfl) 33 (va 256 (iv .u8 F6)) (0, 0) _ (by exact e6d.out.f) Try.underlying33 (by rfl) (sizeBk.trans (by rw [va_size])) ?_
      simp only [Act.put, List.setIfInBounds_toArray, List.set_cons_zero, List.set_cons_succ]
      go_wp2_with fail
      refine ⟨rfl, ⟨_, e6d.out⟩, plan_force ?_⟩
      simp only [List.cons_append, List.nil_append, List.append_nil, List.filterMap_cons, List.filterMap_nil, List.getElem?_toArray, List.getElem?_cons_zero, List.getElem?_cons_succ]
      go_wp2_with fail
      refine (HU.out _).mono ?_
      rintro e y6 ⟨rfl, hy6⟩
      have e6y : Hid (ES w y6 x h F6) := e6d.out.below hy6
      clear hy6
      go_wp2_with fail
      refine ⟨rfl, ⟨_, e6y.out⟩, plan_force ?_⟩
      simp only [List.cons_append, List.nil_append, List.append_nil, List.filterMap_cons, List.filterMap_nil, List.getElem?_toArray, List.getElem?_cons_zero, List.getElem?_cons_succ]
      go_wp2_with fail
      refine (L6.out _).mono ?_
      rintro e u6 ⟨rfl, hb6⟩
      have d6 : Hid (ES w u6 x h F6) := e6y.out.below hb6
      clear hb6
      go_wp2_with fail
      refine ⟨rfl, ⟨_, d6.out⟩, plan_force ?_⟩
      simp only [List.cons_append, List.nil_append, List.append_nil, List.filterMap_cons, List.filterMap_nil, List.getElem?_toArray, List.getElem?_cons_zero, List.getElem?_cons_succ]
      have hst := Blk.store (P := Try.prog) d6.out.f (va 256 (iv .u8 F7)) (by simp only [va_size]) (va_mem_one _ _)
      have hvs := va_size 256 (iv .u8 F7)
      go_wp2_with fail
      refine ⟨rfl, ⟨_, d6.out.set _⟩, plan_fin ?_⟩
      simp only [List.cons_append, List.nil_append, List.append_nil, List.filterMap_cons, List.filterMap_nil, List.getElem?_toArray, List.getElem?_cons_zero, List.getElem?_cons_succ]
      go_wp2_with fail
      refine ⟨rfl, ?_⟩
      go_wp2_with fail
      go_meet
      exact ⟨rfl, d6.out.set _⟩
    · simp only [List.cons_append, List.nil_append, List.append_nil, List.filterMap_cons, List.filterMap_nil, List.getElem?_toArray, List.getElem?_cons_zero, List.getElem?_cons_succ]
      go_wp2_with fail
      refine (HU.out _).mono ?_
      rintro e y6 ⟨rfl, hy6⟩
      have e6y : Hid (ES w y6 x h F6) := e6d.out.below hy6
      clear hy6
      go_wp2_with fail
      refine ⟨rfl, ⟨_, e6y.out⟩, plan_force ?_⟩
      simp only [List.cons_append, List.nil_append, List.append_nil, List.filterMap_cons, List.filterMap_nil, List.getElem?_toArray, List.getElem?_cons_zero, List.getElem?_cons_succ]
      refine wpList_load_rowg (by rfl) 33 _ (by rfl) (h) (by rfl) 33 (va 256 (iv .u8 F6)) (0, 0) _ (by exact e6y.out.f) Try.underlying33 (by rfl) (sizeBk.trans (by rw [va_size])) ?_
      simp only [Act.put, List.setIfInBounds_toArray, List.set_cons_zero, List.set_cons_succ]
      go_wp2_with fail
      refine ⟨rfl, ⟨_, e6y.out⟩, plan_force ?_⟩
      simp only [List.cons_append, List.nil_append, List.append_nil, List.filterMap_cons, List.filterMap_nil, List.getElem?_toArray, List.getElem?_cons_zero, List.getElem?_cons_succ]
      go_wp2_with fail
      refine (L6.out _).mono ?_
      rintro e u6 ⟨rfl, hb6⟩
      have d6 : Hid (ES w u6 x h F6) := e6y.out.below hb6
      clear hb6
      go_wp2_with fail
      refine ⟨rfl, ⟨_, d6.out⟩, plan_force ?_⟩
      simp only [List.cons_append, List.nil_append, List.append_nil, List.filterMap_cons, List.filterMap_nil, List.getElem?_toArray, List.getElem?_cons_zero, List.getElem?_cons_succ]
      have hst := Blk.store (P := Try.prog) d6.out.f (va 256 (iv .u8 F7)) (by simp only [va_size]) (va_mem_one _ _)
      have hvs := va_size 256 (iv .u8 F7)
      go_wp2_with fail
      refine ⟨rfl, ⟨_, d6.out.set _⟩, plan_fin ?_⟩
      simp only [List.cons_append, List.nil_append, List.append_nil, List.filterMap_cons, List.filterMap_nil, List.getElem?_toArray, List.getElem?_cons_zero, List.getElem?_cons_succ]
      go_wp2_with fail
      refine ⟨rfl, ?_⟩
      go_wp2_with fail
      go_meet
      exact ⟨rfl, d6.out.set _⟩
  rename World => v7
  obtain ⟨rfl, e7⟩ := hcut
  clear e6 e6d L6 HU
  have c := sup_c71 e7.out.x
  go_wp2_with (first | (refine wpList_load_rowg (by rfl) 33 _ (by rfl) (h) (by rfl) 33 (va 256 (iv .u8 (F7))) (0, 0) _ (by exact e7.out.f) Try.underlying33 (by rfl) (sizeBk.trans (by rw [va_size])) ?_; simp only [Act.put, List.setIfInBounds_toArray, List.set_cons_zero, List.set_cons_succ]) | fail)
  clear c
  refine (L7.out _).mono ?_
  rintro e u7 ⟨rfl, hb7⟩
  have d7 : Hid (ES w u7 x h F7) := e7.out.below hb7
  have e8 : Hid (ES w (u7.setRow h (va 256 (iv .u8 F8))) x h F8) := d7.out.set _
  clear hb7 e7 L7
  have rr := e8.out.r
  go_wp2_with (first | (refine wpList_store_row (by rfl) 33 _ _ (by rfl) (h) (va 256 (iv .u8 (F8))) (by rfl) (by rfl) 33 (_) (by exact d7.out.f) (sizeBk.trans (by rw [va_size])) (by simp only [va_size]) (iv_one _ _ _) ?_; simp only [Act.put, List.setIfInBounds_toArray, List.set_cons_zero, List.set_cons_succ]) | (refine wpList_load_rowg (by rfl) 33 _ (by rfl) (h) (by rfl) 33 (va 256 (iv .u8 (F8))) (0, 0) _ (by exact e8.out.f) Try.underlying33 (by rfl) (sizeBk.trans (by rw [va_size])) ?_; simp only [Act.put, List.setIfInBounds_toArray, List.set_cons_zero, List.set_cons_succ]) | (refine wpList_store_row (by rfl) 33 _ _ (by rfl) (w.heap.size + 1) (va 256 (iv .u8 (F8))) (by rfl) (by rfl) 33 (_) (by exact rr) (sizeBk.trans (by rw [va_size])) (by simp only [va_size]) (iv_one _ _ _) ?_; simp only [Act.put, List.setIfInBounds_toArray, List.set_cons_zero, List.set_cons_succ]) | fail)
  try simp only [Exit.inBlock, Exit.then]
  refine bodyPost_ret (results_row2 Try.results7 _ _ (w.heap.size + 1) 33 (va 256 (iv .u8 (F8))) (0, 0) _ rfl (rr.set _) Try.underlying33 rfl (sizeBk.trans (by rw [va_size]))) rfl ?_
  exact ⟨rfl, below_setRow e8.out.b (Nat.le_succ _) _⟩
end Go.Proofs.Ytalnfphlhcojcaa

namespace Go.Proofs.Ytalnfphlhcojcaa
open Go Go.RowKit
set_option linter.unusedSimpArgs false
set_option linter.unusedVariables false
def at8 (s : ByteArray) (a : Nat) : Nat := le8 (tbyte s a) (tbyte s (a + 1)) (tbyte s (a + 2)) (tbyte s (a + 3)) (tbyte s (a + 4)) (tbyte s (a + 5)) (tbyte s (a + 6)) (tbyte s (a + 7))
end Go.Proofs.Ytalnfphlhcojcaa
