/- Older slots: the program's contracts of Between, At and Age. -/
import Derived.Test.YtlmbokfgogkbmaaHSlSums
import Derived.Handy

namespace Go.Proofs.Ytlmbokfgogkbmaa
open Go Go.RowKit
set_option linter.unusedSimpArgs false
set_option linter.unusedVariables false

set_option maxRecDepth 100000 in
set_option maxHeartbeats 4000000 in
/-- slots that lie anywhere, cloned -/
theorem cloneSlots_at (g0 o n cap : Nat) (hn : n < 2199023255552) (xs : List Value) (hl : xs.length = n * 34) (hone : ∀ u ∈ xs, u.oneCell' = true) (w : World) (hb : g0 < w.heap.size) (h : ∀ j u, xs[j]? = some u → w.cell? ⟨g0, o + j, none⟩ = some u) :
    Calls Try.prog 45 #[.slice (some ⟨g0, o, none⟩) n cap] w fun e w' => ∃ a c, e = .returned (.slice a n c) ∧ w'.ownsRow w.heap.size 50 34 (.slice a n c) n xs ∧ Below w.heap.size w w' := by
  obtain ⟨i0, hi, hz0, hz1, hz2⟩ := info_parts infoSlot
  have hq := nil_slots (some ⟨g0, o, none⟩) n cap
  have HC : Hid (∀ j u, xs[j]? = some u → (w.alloc (.cells #[] 50)).cell? ((⟨g0, o, none⟩ : Addr).add j) = some u) := fun j u hu => by
    rw [Addr.add_mid, ← h j u hu]
    have := (below_new1 w (.cells #[] 50)).block g0 hb
    simp [World.cell?, this]
  have HO : Hid ((w.alloc (.cells #[] 50)).ownsRow w.heap.size 50 34 (.slice (some ⟨w.heap.size, 0, none⟩) 0 0) 0 []) := World.ownsRow_lit w #[] 0 (Nat.le_refl _) (by decide) rfl
  clear h
  go_enter Try.func45, Try.ntmps45
  go_wp2_with (first
    | (at_builtin; refine wpList_append_own_at rfl _ _ 77 rfl w.heap.size 50 i0 (slV sl0) 34 48 Try.underlying77 hi hz0 hz1 hz2 (slC_size _) (by decide) _ _ _ rfl HO.out ⟨g0, o, none⟩ n cap xs rfl hl HC.out hone (by unfold maxLen; omega) (by omega) (by simp) ?_)
    | go_in)
  intro v2 w2 hown2 hgrow2 _
  have hb2 : Below w.heap.size w w2 := ((Below.refl _ _).alloc (Nat.le_refl _) _).grown hgrow2 (by simp) (fun k hk => by simp [Value.ownBlock] at hk; omega)
  obtain ⟨va0, vc0, hve⟩ := kown_slice hown2
  subst hve
  go_wp2_with fail
  go_ret
  exact ⟨_, _, rfl, hown2, hb2⟩
/-- the slots from place a to place b (not with it) -/
def subL (L : List Sl) (a b : Nat) : List Sl := (L.drop a).take (b - a)
theorem subL_length (L : List Sl) (a b : Nat) (h : b ≤ L.length) : (subL L a b).length = b - a := by
  unfold subL
  rw [List.length_take, List.length_drop]
  omega
theorem subL_at (L : List Sl) (a b i : Nat) (h : i < b - a) : (subL L a b)[i]? = L[a + i]? := by
  unfold subL
  rw [List.getElem?_take, if_pos h, List.getElem?_drop]
theorem slL_sub_at (L : List Sl) (a b j : Nat) (hb : b ≤ L.length) (u : Value) (h : (slL (subL L a b))[j]? = some u) : (slL L)[a * 34 + j]? = some u := by
  have hj : j < (b - a) * 34 := by
    rcases Nat.lt_or_ge j ((b - a) * 34) with h1 | h1
    · exact h1
    · rw [List.getElem?_eq_none (by rw [slL_length, subL_length L a b hb]; exact h1)] at h
      cases h
  have hq : j / 34 < b - a := Nat.div_lt_of_lt_mul (by omega)
  obtain ⟨s, hs⟩ : ∃ s, L[a + j / 34]? = some s := ⟨_, List.getElem?_eq_getElem (by omega)⟩
  have h1 := slL_at (subL L a b) (j / 34) (j % 34) s (by rw [subL_at L a b _ hq]; exact hs) (Nat.mod_lt _ (by decide))
  have h2 := slL_at L (a + j / 34) (j % 34) s hs (Nat.mod_lt _ (by decide))
  rw [show j / 34 * 34 + j % 34 = j by omega, h] at h1
  rw [show (a + j / 34) * 34 + j % 34 = a * 34 + j by omega] at h2
  rw [h2, ← h1]
set_option maxHeartbeats 1000000 in
theorem between_none (f t : Int) (w : World) : Calls Try.prog 34 #[.pointer none, .int .u64 f, .int .u64 t] w fun e w' => e = .returned (.slice none 0 0) ∧ w = w' := by
  go_enter Try.func34, Try.ntmps34
  go_wp2_with fail
  go_ret
  exact ⟨rfl, rfl⟩
section
variable {B r m : Nat} {p : Option Addr} {v : Value} {L : List Sl}
/-- what Between tells -/
def betL (L : List Sl) (f t : Nat) : List Sl := subL L (max f 1 - 1) (min t L.length)
set_option maxRecDepth 100000 in
set_option maxHeartbeats 8000000 in
theorem between_at (f t : Nat) (hf : f < 18446744073709551616) (ht : t < 18446744073709551616) (w : World) (hL : L.length < 2199023255552) (h : RegAt w B r m p v L) :
    Calls Try.prog 34 #[.pointer (some ⟨r, 0, none⟩), .int .u64 (f : Int), .int .u64 (t : Int)] w fun e w' => ∃ a c, e = .returned (.slice a (betL L f t).length c) ∧ w'.ownsRow w.heap.size 50 34 (.slice a (betL L f t).length c) (betL L f t).length (slL (betL L f t)) ∧ Below w.heap.size w w' := by
  obtain ⟨a, c, hv⟩ := kown_slice h.own
  obtain ⟨k, hk⟩ : ∃ k, k = L.length := ⟨_, rfl⟩
  have c1 : w.cell? ⟨r, 1, none⟩ = some (.slice a k c) := by
    rw [h.c, hv, hk]
    rfl
  have HO : Hid (w.ownsRow B 50 34 (.slice a k c) k (slL L)) := by
    have := h.own
    rw [hv, ← hk] at this
    exact this
  have HK : Hid (k = L.length) := hk
  have e64 : (k : Int) % 18446744073709551616 = (k : Int) := by omega
  have HCL : Hid (∀ (g0 fm tm cc : Nat), a = some ⟨g0, 0, none⟩ → fm < tm → tm ≤ k → Calls Try.prog 45 #[.slice (some ⟨g0, fm * 34, none⟩) (tm - fm) cc] w.drew fun e w' => ∃ a c, e = .returned (.slice a (tm - fm) c) ∧ w'.ownsRow w.heap.size 50 34 (.slice a (tm - fm) c) (tm - fm) (slL (subL L fm tm)) ∧ Below w.heap.size w w') := fun g0 fm tm cc ha h1 h2 => by
    subst ha
    have ho := HO.out
    have hg1 : g0 < w.heap.size := (ho.lt g0 rfl).2
    have hlen := subL_length L fm tm (by omega)
    refine (cloneSlots_at g0 (fm * 34) (tm - fm) cc (by omega) (slL (subL L fm tm)) (by rw [slL_length, hlen]) (slL_one _) w.drew hg1 fun j u hu => ?_).mono fun e w' ⟨a, c, q1, q2, q3⟩ => ⟨a, c, q1, q2, (Below.refl _ _).drew.trans q3⟩
    have := slL_sub_at L fm tm j (by omega) u hu
    have hj : fm * 34 + j < (slL L).length := (List.getElem?_eq_some_iff.1 this).1
    rw [slL_length, ← hk] at hj
    show w.cell? _ = _
    rw [ho.cellAt (fm * 34 + j) (by omega)]
    exact this
  have HKC : Hid (k ≤ c) := by
    show k ≤ c
    rcases HO.out.2 with ⟨h1, h2⟩ | ⟨g, cap, cur, h1, _, _, h4, _⟩
    · omega
    · injection h1 with _ _ h1
      omega
  obtain ⟨mx, hmx⟩ : ∃ mx, mx = max f 1 := ⟨_, rfl⟩
  obtain ⟨mn, hmn⟩ : ∃ mn, mn = min t k := ⟨_, rfl⟩
  have HB : Hid (betL L f t = subL L (mx - 1) mn) := by
    show betL L f t = _
    unfold betL
    rw [hmx, hmn, HK.out]
  have m1 : (if (f : Int) < 1 then (1 : Int) else (f : Int)) = (mx : Int) := by
    split <;> omega
  have m1' : (if f < 1 then (1 : Int) else (f : Int)) = (mx : Int) := by
    split <;> omega
  have m1'' : (if f = 0 then (1 : Int) else (f : Int)) = (mx : Int) := by
    split <;> omega
  have m2 : (if (k : Int) < (t : Int) then (k : Int) else (t : Int)) = (mn : Int) := by
    split <;> omega
  have m2' : (if k < t then (k : Int) else (t : Int)) = (mn : Int) := by
    split <;> omega
  have x1 : 1 ≤ mx := by omega
  have x2 : mx < 18446744073709551616 := by omega
  have x3 : mn ≤ k := by omega
  have x4 : mn < 18446744073709551616 := by omega
  have hkc := HKC.out
  clear h hv hk hmx hmn hf ht
  by_cases hc : mn < mx
  · have d1 : (mn : Int) < (mx : Int) := by omega
    go_enter Try.func34, Try.ntmps34
    go_wp2_with fail
    refine wp_region_partsS (fun W => W.cell? ⟨r, 1, none⟩ = some (.slice a k c)) [([0, 2, 3], 1, true), ([10], 4, false), ([], 5, false), ([], 6, false), ([], 7, false), ([], 8, false), ([], 9, false)] [11] [] (by kernel_rfl) (by kernel_rfl) c1 (partsI_yield ?_)
    simp only [List.cons_append, List.nil_append, List.append_nil, List.filterMap_cons, List.filterMap_nil, List.getElem?_toArray, List.getElem?_cons_zero, List.getElem?_cons_succ]
    go_wp2_with fail
    refine ⟨rfl, _, .int .u64 (mx : Int), rfl, Or.inl ⟨by rfl, fun W hW => by go_simp⟩, partsI_force ?_⟩
    simp only [Act.put, List.setIfInBounds_toArray, List.set_cons_zero, List.set_cons_succ]
    simp only [List.cons_append, List.nil_append, List.append_nil, List.filterMap_cons, List.filterMap_nil, List.getElem?_toArray, List.getElem?_cons_zero, List.getElem?_cons_succ]
    go_wp2_with fail
    refine ⟨rfl, c1, partsI_force ?_⟩
    simp only [List.cons_append, List.nil_append, List.append_nil, List.filterMap_cons, List.filterMap_nil, List.getElem?_toArray, List.getElem?_cons_zero, List.getElem?_cons_succ]
    go_wp2_with fail
    refine ⟨rfl, c1, partsI_force ?_⟩
    simp only [List.cons_append, List.nil_append, List.append_nil, List.filterMap_cons, List.filterMap_nil, List.getElem?_toArray, List.getElem?_cons_zero, List.getElem?_cons_succ]
    go_wp2_with fail
    refine ⟨rfl, c1, partsI_force ?_⟩
    simp only [List.cons_append, List.nil_append, List.append_nil, List.filterMap_cons, List.filterMap_nil, List.getElem?_toArray, List.getElem?_cons_zero, List.getElem?_cons_succ]
    go_wp2_with fail
    refine ⟨rfl, c1, partsI_force ?_⟩
    simp only [List.cons_append, List.nil_append, List.append_nil, List.filterMap_cons, List.filterMap_nil, List.getElem?_toArray, List.getElem?_cons_zero, List.getElem?_cons_succ]
    go_wp2_with fail
    refine ⟨rfl, c1, partsI_force ?_⟩
    simp only [List.cons_append, List.nil_append, List.append_nil, List.filterMap_cons, List.filterMap_nil, List.getElem?_toArray, List.getElem?_cons_zero, List.getElem?_cons_succ]
    go_wp2_with fail
    refine ⟨rfl, c1, partsI_last ?_⟩
    simp only [List.cons_append, List.nil_append, List.append_nil, List.filterMap_cons, List.filterMap_nil, List.getElem?_toArray, List.getElem?_cons_zero, List.getElem?_cons_succ]
    go_wp2_with fail
    refine ⟨rfl, ?_⟩
    go_wp2_with fail
    go_ret
    have HL : Hid (betL L f t = []) := by
      show betL L f t = []
      rw [HB.out]
      unfold subL
      rw [show mn - (mx - 1) = 0 by omega, List.take_zero]
    rw [HL.out]
    exact ⟨none, 0, rfl, World.ownsRow_nil _ _ _ _, (Below.refl _ _).drew⟩
  · have d1 : ¬ (mn : Int) < (mx : Int) := by omega
    obtain ⟨lo, hlo⟩ : ∃ lo, mx = lo + 1 := ⟨mx - 1, by omega⟩
    subst hlo
    obtain ⟨g0, cap, hv0, hg0, hg1⟩ := kown_form HO.out (by omega)
    injection hv0 with hv0 _ hv1
    subst hv0 hv1
    have d2 : (0 : Int) ≤ (lo : Int) := by omega
    have d3 : (lo : Int) ≤ (mn : Int) := by omega
    have d4 : (mn : Int) ≤ (c : Int) := by omega
    have d5 : (lo : Int) + 1 - 1 = (lo : Int) := by omega
    go_enter Try.func34, Try.ntmps34
    go_wp2_with fail
    refine wp_region_partsS (fun W => W.cell? ⟨r, 1, none⟩ = some (.slice (some ⟨g0, 0, none⟩) k c)) [([0, 2, 3], 1, true), ([10], 4, false), ([], 5, false), ([], 6, false), ([], 7, false), ([], 8, false), ([], 9, false)] [11] [] (by kernel_rfl) (by kernel_rfl) c1 (partsI_yield ?_)
    simp only [List.cons_append, List.nil_append, List.append_nil, List.filterMap_cons, List.filterMap_nil, List.getElem?_toArray, List.getElem?_cons_zero, List.getElem?_cons_succ]
    go_wp2_with fail
    refine ⟨rfl, _, .int .u64 ((lo + 1 : Nat) : Int), rfl, Or.inl ⟨by rfl, fun W hW => by go_simp⟩, partsI_force ?_⟩
    simp only [Act.put, List.setIfInBounds_toArray, List.set_cons_zero, List.set_cons_succ]
    simp only [List.cons_append, List.nil_append, List.append_nil, List.filterMap_cons, List.filterMap_nil, List.getElem?_toArray, List.getElem?_cons_zero, List.getElem?_cons_succ]
    go_wp2_with fail
    refine ⟨rfl, c1, partsI_force ?_⟩
    simp only [List.cons_append, List.nil_append, List.append_nil, List.filterMap_cons, List.filterMap_nil, List.getElem?_toArray, List.getElem?_cons_zero, List.getElem?_cons_succ]
    go_wp2_with fail
    refine ⟨rfl, c1, partsI_force ?_⟩
    simp only [List.cons_append, List.nil_append, List.append_nil, List.filterMap_cons, List.filterMap_nil, List.getElem?_toArray, List.getElem?_cons_zero, List.getElem?_cons_succ]
    go_wp2_with fail
    refine ⟨rfl, c1, partsI_force ?_⟩
    simp only [List.cons_append, List.nil_append, List.append_nil, List.filterMap_cons, List.filterMap_nil, List.getElem?_toArray, List.getElem?_cons_zero, List.getElem?_cons_succ]
    go_wp2_with fail
    refine ⟨rfl, c1, partsI_force ?_⟩
    simp only [List.cons_append, List.nil_append, List.append_nil, List.filterMap_cons, List.filterMap_nil, List.getElem?_toArray, List.getElem?_cons_zero, List.getElem?_cons_succ]
    go_wp2_with fail
    refine ⟨rfl, c1, partsI_force ?_⟩
    simp only [List.cons_append, List.nil_append, List.append_nil, List.filterMap_cons, List.filterMap_nil, List.getElem?_toArray, List.getElem?_cons_zero, List.getElem?_cons_succ]
    go_wp2_with fail
    refine ⟨rfl, c1, partsI_last ?_⟩
    simp only [List.cons_append, List.nil_append, List.append_nil, List.filterMap_cons, List.filterMap_nil, List.getElem?_toArray, List.getElem?_cons_zero, List.getElem?_cons_succ]
    go_wp2_with fail
    refine ⟨rfl, ?_⟩
    go_wp2_with fail
    refine (HCL.out g0 lo mn (c - lo) rfl (by omega) x3).mono ?_
    rintro e w1 ⟨a1, c2, rfl, ho, hb⟩
    go_wp2_with fail
    go_ret
    have HL : Hid (betL L f t = subL L lo mn) := HB.out
    rw [HL.out, subL_length L lo mn (by rw [← HK.out]; exact x3)]
    exact ⟨_, _, rfl, ho, hb⟩
set_option maxRecDepth 100000 in
set_option maxHeartbeats 2000000 in
theorem at_none (x : Int) (w : World) : Calls Try.prog 33 #[.pointer none, .int .u64 x] w fun e w' => e = .returned (.tuple #[.agg (slC sl0), .bool false]) ∧ Below w.heap.size w w' := by
  have hz := zero_slot
  have r0 : Blk (w.alloc (.cells (slC sl0) 50)) w.heap.size 50 (slC sl0) := Blk.new _ _ _
  have hb : Below w.heap.size w (w.alloc (.cells (slC sl0) 50)) := below_new1 _ _
  have hB : Hid (∀ w : World, Calls Try.prog 34 #[.pointer none, .int .u64 x, .int .u64 x] w fun e w' => e = .returned (.slice none 0 0) ∧ w = w') := between_none x x
  go_enter Try.func33, Try.ntmps33
  go_wp2_with fail
  refine (hB.out _).mono ?_
  rintro e _ ⟨rfl, rfl⟩
  go_wp2_with (first
    | (refine wpList_store_row (by rfl) 50 _ _ (by rfl) (w.heap.size) (slC sl0) (by rfl) (by rfl) 50 _ r0 (sizeSlot.trans (by rw [slC_size])) (by simp only [slC_size]) (slC_all _) ?_; simp only [Act.put, List.setIfInBounds_toArray, List.set_cons_zero, List.set_cons_succ])
    | fail)
  try simp only [Exit.inBlock, Exit.then]
  refine bodyPost_ret (results_row2 Try.results33 _ _ (w.heap.size) 50 (slC sl0) (0, 0) _ rfl (r0.set _) Try.underlying50 rfl (sizeSlot.trans (by rw [slC_size]))) rfl ?_
  exact ⟨rfl, below_setRow hb (Nat.le_refl _) _⟩
/-- what At tells -/
def atS (L : List Sl) (x : Nat) : Sl := if 1 ≤ x ∧ x ≤ L.length then L.getD (x - 1) sl0 else sl0
def atB (L : List Sl) (x : Nat) : Bool := decide (1 ≤ x ∧ x ≤ L.length)
set_option maxRecDepth 100000 in
set_option maxHeartbeats 4000000 in
theorem at_at (x : Nat) (hx : x < 18446744073709551616) (w : World) (hL : L.length < 2199023255552) (h : RegAt w B r m p v L) : Calls Try.prog 33 #[.pointer (some ⟨r, 0, none⟩), .int .u64 (x : Int)] w fun e w' => e = .returned (.tuple #[.agg (slC (atS L x)), .bool (atB L x)]) ∧ Below w.heap.size w w' := by
  have hz := zero_slot
  have r0 : Blk (w.alloc (.cells (slC sl0) 50)) w.heap.size 50 (slC sl0) := Blk.new _ _ _
  have hb : Below w.heap.size w (w.alloc (.cells (slC sl0) 50)) := below_new1 _ _
  have HB := between_at x x hx hx _ hL (h.below hb)
  by_cases hc : 1 ≤ x ∧ x ≤ L.length
  · obtain ⟨sx, hsx⟩ : ∃ sx, L[x - 1]? = some sx := ⟨_, List.getElem?_eq_getElem (by omega)⟩
    have HS : Hid (atS L x = sx) := by
      show atS L x = sx
      unfold atS
      rw [if_pos hc, List.getD_eq_getElem?_getD, hsx]
      rfl
    have HD : Hid (atB L x = true) := decide_eq_true hc
    have hbl : betL L x x = [sx] := by
      unfold betL subL
      rw [show max x 1 - 1 = x - 1 by omega, show min x L.length - (x - 1) = 1 by omega]
      apply List.ext_getElem?
      intro i
      rw [List.getElem?_take, List.getElem?_drop]
      by_cases hi : i = 0
      · subst hi
        rw [if_pos (by decide), Nat.add_zero, hsx]
        rfl
      · rw [if_neg (by omega), List.getElem?_eq_none (by simp; omega)]
    rw [hbl] at HB
    rw [HS.out, HD.out]
    have HBH : Hid (Calls Try.prog 34 #[.pointer (some ⟨r, 0, none⟩), .int .u64 (x : Int), .int .u64 (x : Int)] (w.alloc (.cells (slC sl0) 50)) fun e w' => ∃ a c, e = .returned (.slice a 1 c) ∧ w'.ownsRow (w.alloc (.cells (slC sl0) 50)).heap.size 50 34 (.slice a 1 c) 1 (slL [sx]) ∧ Below (w.alloc (.cells (slC sl0) 50)).heap.size (w.alloc (.cells (slC sl0) 50)) w') := HB
    clear HB h hbl hsx hc HS HD
    go_enter Try.func33, Try.ntmps33
    go_wp2_with fail
    refine HBH.out.mono ?_
    rintro e w1 ⟨a1, c1, rfl, ho, hb1⟩
    obtain ⟨g1, cap1, hv1, _, _⟩ := kown_form ho (by omega)
    injection hv1 with hv1 _ hv2
    subst hv1 hv2
    have HR : Hid (w1.rangeAt g1 (0 * 34) ((List.range 34).map (slF sx))) := own_slot (L := [sx]) ho 0 sx rfl
    rw [Nat.zero_mul] at HR
    have r1 := r0.below hb1 r0.lt
    have hb2 : Below w.heap.size w w1 := hb.trans (hb1.mono hb.size)
    clear ho hb1 HBH r0 hb
    go_wp2_with (first
      | (refine wpList_load_blk (by rfl) 50 _ (by rfl) (g1) (0) 34 (slF sx) (by rfl) _ (by exact HR.out) Try.underlying50 rfl sizeSlot ?_; simp only [Act.put, List.setIfInBounds_toArray, List.set_cons_zero, List.set_cons_succ])
      | (refine wpList_store_row (by rfl) 50 _ _ (by rfl) (w.heap.size) (slC sx) (by rfl) (by rfl) 50 (slC sl0) (by exact r1) (sizeSlot.trans (by rw [slC_size])) (by simp only [slC_size]) (slC_all _) ?_; simp only [Act.put, List.setIfInBounds_toArray, List.set_cons_zero, List.set_cons_succ])
      | fail)
    try simp only [Exit.inBlock, Exit.then]
    refine bodyPost_ret (results_row2 Try.results33 _ _ (w.heap.size) 50 (slC sx) (0, 0) _ rfl (r1.set _) Try.underlying50 rfl (sizeSlot.trans (by rw [slC_size]))) rfl ?_
    exact ⟨rfl, below_setRow hb2 (Nat.le_refl _) _⟩
  · have HS : Hid (atS L x = sl0) := if_neg hc
    have HD : Hid (atB L x = false) := decide_eq_false hc
    have hbl : betL L x x = [] := by
      unfold betL subL
      rw [show min x L.length - (max x 1 - 1) = 0 by omega, List.take_zero]
    rw [hbl] at HB
    rw [HS.out, HD.out]
    have HBH : Hid (Calls Try.prog 34 #[.pointer (some ⟨r, 0, none⟩), .int .u64 (x : Int), .int .u64 (x : Int)] (w.alloc (.cells (slC sl0) 50)) fun e w' => ∃ a c, e = .returned (.slice a 0 c) ∧ w'.ownsRow (w.alloc (.cells (slC sl0) 50)).heap.size 50 34 (.slice a 0 c) 0 (slL []) ∧ Below (w.alloc (.cells (slC sl0) 50)).heap.size (w.alloc (.cells (slC sl0) 50)) w') := HB
    clear HB h hbl hc HS HD
    go_enter Try.func33, Try.ntmps33
    go_wp2_with fail
    refine HBH.out.mono ?_
    rintro e w1 ⟨a1, c1, rfl, ho, hb1⟩
    have r1 := r0.below hb1 r0.lt
    have hb2 : Below w.heap.size w w1 := hb.trans (hb1.mono hb.size)
    clear ho hb1 HBH r0 hb
    go_wp2_with (first
      | (refine wpList_store_row (by rfl) 50 _ _ (by rfl) (w.heap.size) (slC sl0) (by rfl) (by rfl) 50 (slC sl0) (by exact r1) (sizeSlot.trans (by rw [slC_size])) (by simp only [slC_size]) (slC_all _) ?_; simp only [Act.put, List.setIfInBounds_toArray, List.set_cons_zero, List.set_cons_succ])
      | fail)
    try simp only [Exit.inBlock, Exit.then]
    refine bodyPost_ret (results_row2 Try.results33 _ _ (w.heap.size) 50 (slC sl0) (0, 0) _ rfl (r1.set _) Try.underlying50 rfl (sizeSlot.trans (by rw [slC_size]))) rfl ?_
    exact ⟨rfl, below_setRow hb2 (Nat.le_refl _) _⟩
set_option maxRecDepth 100000 in
set_option maxHeartbeats 2000000 in
theorem age_none (s : Sl) (w : World) : Calls Try.prog 32 #[.pointer none, .agg (slC s)] w fun e w' => e = .returned (.tuple #[.int .i64 0, .bool false]) ∧ Below w.heap.size w w' := by
  have r0 : Blk (w.alloc (.cells (slC s) 50)) w.heap.size 50 (slC s) := Blk.new _ _ _
  have hb : Below w.heap.size w (w.alloc (.cells (slC s) 50)) := below_new1 _ _
  have hW : Hid (∀ w : World, Calls Try.prog 19 #[.pointer none, .agg (slC s)] w fun e w' => e = .returned (.bool false) ∧ Below w.heap.size w w') := was_none s
  go_enter Try.func32, Try.ntmps32
  go_wp2_with (first
    | (refine wpList_load_rowg (by rfl) 50 _ (by rfl) (w.heap.size) (by rfl) 50 (slC s) (0, 0) _ (by exact r0) Try.underlying50 (by rfl) (sizeSlot.trans (by rw [slC_size])) ?_; simp only [Act.put, List.setIfInBounds_toArray, List.set_cons_zero, List.set_cons_succ])
    | fail)
  refine (hW.out _).mono ?_
  rintro e w1 ⟨rfl, hb1⟩
  go_wp2_with fail
  try simp only [Exit.inBlock, Exit.then]
  refine bodyPost_ret (results_tmp2 Try.results32 _ _ _) rfl ?_
  exact ⟨rfl, hb.trans (hb1.mono hb.size)⟩
set_option maxRecDepth 100000 in
set_option maxHeartbeats 2000000 in
theorem age_not (s : Sl) (hs : s ∉ L) (w : World) (h : RegAt w B r m p v L) : Calls Try.prog 32 #[.pointer (some ⟨r, 0, none⟩), .agg (slC s)] w fun e w' => e = .returned (.tuple #[.int .i64 0, .bool false]) ∧ Below w.heap.size w w' := by
  have r0 : Blk (w.alloc (.cells (slC s) 50)) w.heap.size 50 (slC s) := Blk.new _ _ _
  have hb : Below w.heap.size w (w.alloc (.cells (slC s) 50)) := below_new1 _ _
  have hW : Hid (Calls Try.prog 19 #[.pointer (some ⟨r, 0, none⟩), .agg (slC s)] (w.alloc (.cells (slC s) 50)) fun e w' => e = .returned (.bool false) ∧ Below (w.alloc (.cells (slC s) 50)).heap.size (w.alloc (.cells (slC s) 50)) w') := by
    have := was_at s _ (h.below hb)
    rw [decide_eq_false hs] at this
    exact this
  clear h hs
  go_enter Try.func32, Try.ntmps32
  go_wp2_with (first
    | (refine wpList_load_rowg (by rfl) 50 _ (by rfl) (w.heap.size) (by rfl) 50 (slC s) (0, 0) _ (by exact r0) Try.underlying50 (by rfl) (sizeSlot.trans (by rw [slC_size])) ?_; simp only [Act.put, List.setIfInBounds_toArray, List.set_cons_zero, List.set_cons_succ])
    | fail)
  refine hW.out.mono ?_
  rintro e w1 ⟨rfl, hb1⟩
  go_wp2_with fail
  try simp only [Exit.inBlock, Exit.then]
  refine bodyPost_ret (results_tmp2 Try.results32 _ _ _) rfl ?_
  exact ⟨rfl, hb.trans (hb1.mono hb.size)⟩
theorem find_cnt (hcn : Cnt L) (i : Nat) (s : Sl) (hs : L[i]? = some s) : findIn s L.zipIdx = some i := by
  have hm : s ∈ L := List.mem_of_getElem? hs
  have h1 := findIn_zip s L 0
  rw [decide_eq_true hm] at h1
  obtain ⟨j, hj⟩ := Option.isSome_iff_exists.1 h1
  obtain ⟨_, h3⟩ := findIn_zip_some s L 0 j hj
  have e1 := hcn i s hs
  have e2 := hcn _ s h3
  rw [hj]
  congr 1
  omega
set_option maxRecDepth 100000 in
set_option maxHeartbeats 4000000 in
theorem age_at (hcn : Cnt L) (i : Nat) (s : Sl) (hs : L[i]? = some s) (hL : L.length < 2199023255552) (w : World) (h : RegAt w B r m p v L) : Calls Try.prog 32 #[.pointer (some ⟨r, 0, none⟩), .agg (slC s)] w fun e w' => e = .returned (.tuple #[.int .i64 ((L.length : Int) - 1 - (i : Int)), .bool true]) ∧ Below w.heap.size w w' := by
  have r0 : Blk (w.alloc (.cells (slC s) 50)) w.heap.size 50 (slC s) := Blk.new _ _ _
  have hb : Below w.heap.size w (w.alloc (.cells (slC s) 50)) := below_new1 _ _
  have hW : Hid (Calls Try.prog 19 #[.pointer (some ⟨r, 0, none⟩), .agg (slC s)] (w.alloc (.cells (slC s) 50)) fun e w' => e = .returned (.bool true) ∧ Below (w.alloc (.cells (slC s) 50)).heap.size (w.alloc (.cells (slC s) 50)) w') := by
    have := was_at s _ (h.below hb)
    rw [decide_eq_true (List.mem_of_getElem? hs)] at this
    exact this
  have hi : i < L.length := (List.getElem?_eq_some_iff.1 hs).1
  obtain ⟨a, c, hv⟩ := kown_slice h.own
  obtain ⟨k, hk⟩ : ∃ k, k = L.length := ⟨_, rfl⟩
  have HF : Hid (findIn s L.zipIdx = some i) := find_cnt hcn i s hs
  have HREG : Hid (RegAt (w.alloc (.cells (slC s) 50)) B r m p v L) := h.below hb
  have HV : Hid (v = .slice a k c) := by rw [hk]; exact hv
  rw [← hk] at hi hL ⊢
  have k1 : (1 : Int) ≤ (k : Int) := by omega
  have k2 : (i : Int) < (k : Int) := by omega
  have k3 : (0 : Int) ≤ (i : Int) := by omega
  have k4 : (k : Int) < 2199023255552 := by omega
  clear h hs hk hv hcn hi
  go_enter Try.func32, Try.ntmps32
  go_wp2_with (first
    | (refine wpList_load_rowg (by rfl) 50 _ (by rfl) (w.heap.size) (by rfl) 50 (slC s) (0, 0) _ (by exact r0) Try.underlying50 (by rfl) (sizeSlot.trans (by rw [slC_size])) ?_; simp only [Act.put, List.setIfInBounds_toArray, List.set_cons_zero, List.set_cons_succ])
    | fail)
  refine hW.out.mono ?_
  rintro e w1 ⟨rfl, hb1⟩
  have HR1 : Hid (RegAt w1 B r m p v L) := HREG.out.below hb1
  have r1 := r0.below hb1 r0.lt
  have hb2 : Below w.heap.size w w1 := hb.trans (hb1.mono hb.size)
  have c1 : w1.cell? ⟨r, 1, none⟩ = some (.slice a k c) := by
    rw [HR1.out.c, ← HV.out]
    rfl
  have c2 : w1.cell? ⟨r, 2, none⟩ = some (.map (some m)) := by
    rw [HR1.out.c]
    rfl
  have hlk0 := (RegAt.below HR1.out (Below.refl _ _).drew).look s false
  rw [HF.out] at hlk0
  have hlk : (Instr.lookup 97 (.map (some m)) (.agg (slC s)) false).run Try.prog w1.drew = .ok (.int .i64 (i : Int)) w1.drew := hlk0
  have e7 : IntKind.i64.wrap ((k : Int) - 1 - (i : Int)) = (k : Int) - 1 - (i : Int) := by
    rw [IntKind.wrap_i64]
    omega
  clear hb1 hb r0 hW HREG hlk0
  go_wp2_with fail
  refine wp_region_partsS (fun W => W.cell? ⟨r, 1, none⟩ = some (.slice a k c) ∧ W.cell? ⟨r, 2, none⟩ = some (.map (some m))) [([0, 6], 1, true), ([], 2, true), ([], 3, true), ([], 4, true), ([], 5, true), ([], 7, true), ([], 8, true), ([], 9, true), ([], 10, false), ([], 11, false), ([], 12, false)] [13, 14] [] (by kernel_rfl) (by kernel_rfl) ⟨c1, c2⟩ (partsI_yield ?_)
  simp only [List.cons_append, List.nil_append, List.append_nil, List.filterMap_cons, List.filterMap_nil, List.getElem?_toArray, List.getElem?_cons_zero, List.getElem?_cons_succ]
  go_wp2_with fail
  refine ⟨rfl, _, .pointer (some ⟨r, 0, none⟩), rfl, Or.inl ⟨by rfl, fun W hW => by go_simp⟩, partsI_yield ?_⟩
  simp only [Act.put, List.setIfInBounds_toArray, List.set_cons_zero, List.set_cons_succ]
  simp only [List.cons_append, List.nil_append, List.append_nil, List.filterMap_cons, List.filterMap_nil, List.getElem?_toArray, List.getElem?_cons_zero, List.getElem?_cons_succ]
  go_wp2_with fail
  refine ⟨rfl, _, .pointer (some ⟨r, 1, none⟩), rfl, Or.inl ⟨by rfl, fun W hW => by go_simp⟩, partsI_yield ?_⟩
  simp only [Act.put, List.setIfInBounds_toArray, List.set_cons_zero, List.set_cons_succ]
  simp only [List.cons_append, List.nil_append, List.append_nil, List.filterMap_cons, List.filterMap_nil, List.getElem?_toArray, List.getElem?_cons_zero, List.getElem?_cons_succ]
  go_wp2_with fail
  refine ⟨rfl, _, .slice a k c, rfl, Or.inl ⟨by rfl, fun W hW => by obtain ⟨hWa, hWb⟩ := hW; go_simp⟩, partsI_yield ?_⟩
  simp only [Act.put, List.setIfInBounds_toArray, List.set_cons_zero, List.set_cons_succ]
  simp only [List.cons_append, List.nil_append, List.append_nil, List.filterMap_cons, List.filterMap_nil, List.getElem?_toArray, List.getElem?_cons_zero, List.getElem?_cons_succ]
  go_wp2_with fail
  refine ⟨rfl, _, .int .i64 (k : Int), rfl, Or.inl ⟨by rfl, fun W hW => by go_simp⟩, partsI_yield ?_⟩
  simp only [Act.put, List.setIfInBounds_toArray, List.set_cons_zero, List.set_cons_succ]
  simp only [List.cons_append, List.nil_append, List.append_nil, List.filterMap_cons, List.filterMap_nil, List.getElem?_toArray, List.getElem?_cons_zero, List.getElem?_cons_succ]
  go_wp2_with fail
  refine ⟨rfl, _, .int .i64 ((k : Int) - 1), rfl, Or.inl ⟨by rfl, fun W hW => by go_simp; rw [IntKind.wrap_i64]; omega⟩, partsI_yield ?_⟩
  simp only [Act.put, List.setIfInBounds_toArray, List.set_cons_zero, List.set_cons_succ]
  simp only [List.cons_append, List.nil_append, List.append_nil, List.filterMap_cons, List.filterMap_nil, List.getElem?_toArray, List.getElem?_cons_zero, List.getElem?_cons_succ]
  go_wp2_with fail
  refine ⟨rfl, _, .pointer (some ⟨r, 0, none⟩), rfl, Or.inl ⟨by rfl, fun W hW => by go_simp⟩, partsI_yield ?_⟩
  simp only [Act.put, List.setIfInBounds_toArray, List.set_cons_zero, List.set_cons_succ]
  simp only [List.cons_append, List.nil_append, List.append_nil, List.filterMap_cons, List.filterMap_nil, List.getElem?_toArray, List.getElem?_cons_zero, List.getElem?_cons_succ]
  go_wp2_with fail
  refine ⟨rfl, _, .pointer (some ⟨r, 2, none⟩), rfl, Or.inl ⟨by rfl, fun W hW => by go_simp⟩, partsI_yield ?_⟩
  simp only [Act.put, List.setIfInBounds_toArray, List.set_cons_zero, List.set_cons_succ]
  simp only [List.cons_append, List.nil_append, List.append_nil, List.filterMap_cons, List.filterMap_nil, List.getElem?_toArray, List.getElem?_cons_zero, List.getElem?_cons_succ]
  go_wp2_with fail
  refine ⟨rfl, _, .map (some m), rfl, Or.inl ⟨by rfl, fun W hW => by obtain ⟨hWa, hWb⟩ := hW; go_simp⟩, partsI_force ?_⟩
  simp only [Act.put, List.setIfInBounds_toArray, List.set_cons_zero, List.set_cons_succ]
  simp only [List.cons_append, List.nil_append, List.append_nil, List.filterMap_cons, List.filterMap_nil, List.getElem?_toArray, List.getElem?_cons_zero, List.getElem?_cons_succ]
  refine wpList_load_rowg (by rfl) 50 _ (by rfl) w.heap.size (by rfl) 50 (slC s) (0, 0) _ r1.drew Try.underlying50 (by rfl) (sizeSlot.trans (by rw [slC_size])) ?_
  simp only [Act.put, List.setIfInBounds_toArray, List.set_cons_zero, List.set_cons_succ]
  go_wp2_with fail
  refine ⟨rfl, ⟨c1, c2⟩, partsI_force ?_⟩
  simp only [List.cons_append, List.nil_append, List.append_nil, List.filterMap_cons, List.filterMap_nil, List.getElem?_toArray, List.getElem?_cons_zero, List.getElem?_cons_succ]
  go_wp2_with fail
  refine ⟨rfl, ⟨c1, c2⟩, partsI_force ?_⟩
  simp only [List.cons_append, List.nil_append, List.append_nil, List.filterMap_cons, List.filterMap_nil, List.getElem?_toArray, List.getElem?_cons_zero, List.getElem?_cons_succ]
  go_wp2_with fail
  refine ⟨rfl, ⟨c1, c2⟩, partsI_last ?_⟩
  simp only [List.cons_append, List.nil_append, List.append_nil, List.filterMap_cons, List.filterMap_nil, List.getElem?_toArray, List.getElem?_cons_zero, List.getElem?_cons_succ]
  go_wp2_with fail
  refine ⟨rfl, ?_⟩
  go_wp2_with fail
  try simp only [Exit.inBlock, Exit.then]
  refine bodyPost_ret (results_tmp2 Try.results32 _ _ _) rfl ?_
  exact ⟨rfl, hb2.drew⟩
end
end Go.Proofs.Ytlmbokfgogkbmaa
