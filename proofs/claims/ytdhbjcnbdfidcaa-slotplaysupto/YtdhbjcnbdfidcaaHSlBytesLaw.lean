/- The statement SlotBytes, called with whatever slots and text: it returns true. -/
import Derived.Test.YtdhbjcnbdfidcaaHSegsW
import Derived.Test.YtdhbjcnbdfidcaaHSlRef
import Derived.Deep.DeepCutAuto
import Derived.Deep.Cut
import Derived.Handy
import Derived.Test.YtdhbjcnbdfidcaaHSlAwake

namespace Go.Proofs.Ytdhbjcnbdfidcaa
open Go Go.RowKit
set_option linter.unusedSimpArgs false
set_option linter.unusedVariables false

/-- an own slice behind another one, whether it has a block or none -/
theorem wpList_append_own_own {P : Program} {ops : Array Oper} {rest : List Oper} {o : Oper} {a : Act} {w : World} {Q : Exit → Act → World → Prop} (hgd : o.guard = none) (s x : Operand) (t : TypeId)
    (ho : o.op = .call { callee := .builtin .append, args := #[s, x], argTypes := #[t, t] })
    (base : Nat) (e : TypeId) (i : TypeInfo) (z : Value) (size bytes : Nat) (ht : P.underlying t = some (.slice e)) (hi : P.info? e = some i) (hz : i.zero = some z)
    (hsize : i.size = size) (hby : i.bytes = bytes) (hzs : z.cells.size = size) (hsz : 0 < size)
    (v : Value) (n : Nat) (xs : List Value) (hs : a.eval s = v) (hown : w.ownsRow base e size v n xs)
    (v2 : Value) (B2 n2 : Nat) (xs2 : List Value) (hx : a.eval x = v2) (hown2 : w.ownsRow B2 e size v2 n2 xs2) (h1 : ∀ u ∈ xs2, u.oneCell' = true)
    (h63 : n + n2 ≤ maxLen) (hbytes : (n + n2) * bytes ≤ 140737488355328) (hbase : base ≤ w.heap.size)
    (h : ∀ v' w', w'.ownsRow base e size v' (n + n2) (xs ++ xs2) → w.grownBy w' v.ownBlock → (v'.ownBlock = v.ownBlock ∨ v'.ownBlock = some w.heap.size) → wpList P ops Q rest (a.put o.dst v') w') :
    wpList P ops Q (o :: rest) a w := by
  rcases hown2.2 with ⟨e1, e2⟩ | ⟨g, cap, cur, e1, _, hg, _, _, _, htake⟩
  · have e3 : xs2 = [] := by
      have := hown2.1
      rw [e2, Nat.zero_mul] at this
      exact List.length_eq_zero_iff.1 this
    subst e1 e2 e3
    refine wpList_append_own_none hgd s x t ho base e i size ht hi v n xs hs hown hx (h v w ?_ ⟨rfl, rfl, rfl, Nat.le_refl _, fun _ _ _ => rfl⟩ (.inl rfl))
    rw [Nat.add_zero, List.append_nil]
    exact hown
  · subst e1
    refine wpList_append_own_at hgd s x t ho base e i z size bytes ht hi hz hsize hby hzs hsz v n xs hs hown ⟨g, 0, none⟩ n2 cap xs2 hx hown2.1 (fun j u hu => ?_) h1 h63 hbytes hbase h
    rw [Addr.add_mid, Nat.zero_add, hown2.cellAt j (by rw [← hown2.1]; exact (List.getElem?_eq_some_iff.1 hu).1), hu]
theorem slL_mem_one (L : List Sl) : ∀ u ∈ slL L, u.oneCell' = true := fun u hu => by
  obtain ⟨t, _, h2⟩ := List.mem_flatMap.1 hu
  exact slC_one t u h2
/-- what lies beside the slices while the region goes on -/
structure RW (w W : World) (B : Nat) (n s : Sl) (v : Value) (L : List Sl) (di : Bool) : Prop where
  s0 : Blk W w.heap.size 39 (rgC n v)
  s1 : Blk W (w.heap.size + 1) 36 (slC s)
  s2 : Blk W (w.heap.size + 2) 52 #[.bool true, .bool di]
  s3 : Blk W (w.heap.size + 3) 39 (rgC sl0 (.slice none 0 0))
  own : W.ownsRow B 36 34 v L.length (slL L)
  lt : ∀ k, v.ownBlock = some k → k < w.heap.size
  sz : w.heap.size + 4 ≤ W.heap.size
  low : Below w.heap.size w W
theorem RW.keep {w W W' : World} {B : Nat} {n s : Sl} {v : Value} {L : List Sl} {di : Bool} (h : RW w W B n s v L di) (hb : Below (w.heap.size + 4) W W') : RW w W' B n s v L di :=
  ⟨h.s0.below hb (by omega), h.s1.below hb (by omega), h.s2.below hb (by omega), h.s3.below hb (by omega), kown_kept h.own fun k _ hk => hb.block k (by have := h.lt k hk; omega), h.lt, Nat.le_trans h.sz hb.size, h.low.trans (hb.mono (by omega))⟩
theorem RW.more {w W : World} {B : Nat} {n s : Sl} {v : Value} {L : List Sl} {di : Bool} (h : RW w W B n s v L di) (o : Obj) : RW w (W.alloc o) B n s v L di := h.keep ((below_new1 W o).mono h.sz)
section
variable {B : Nat}
set_option maxRecDepth 100000 in
set_option maxHeartbeats 16000000 in
theorem refWrite_go (n s : Sl) (a : Option Addr) (c : Nat) (L : List Sl) (hL : L.length < 1099511627776) (di : Bool) (hs : s.2.1 ≠ 0) (hn : n.1 < 18446744073709551615) (hf : s.1 = n.1 + 1) (w : World) (hown : w.ownsRow B 36 34 (.slice a L.length c) L.length (slL L)) : Calls Try.prog 11 #[.agg (rgC n (.slice a L.length c)), .agg (slC s), .bool false, .agg #[.bool true, .bool di]] w fun e w' => ∃ a' c', e = .returned (.tuple #[.agg (rgC s (.slice a' (L.length + 1) c')), .bool true, .int .i64 (if di then 4 else 0)]) ∧ w'.ownsRow w.heap.size 36 34 (.slice a' (L.length + 1) c') (L.length + 1) (slL (L ++ [s])) ∧ Below w.heap.size w w' := by
  obtain ⟨i0, hi, hz0, hz1, hz2⟩ := info_parts infoRslot
  obtain ⟨v, hv⟩ : ∃ v, v = Value.slice a L.length c := ⟨_, rfl⟩
  have HV : Hid (v = .slice a L.length c) := hv
  rw [← hv]
  rw [← hv] at hown
  clear hv
  have HOW : Hid (w.ownsRow B 36 34 v L.length (slL L)) := hown
  clear hown
  have hz := zero_rg
  have r0 : Blk ((((w.alloc (.cells (rgC n v) 39)).alloc (.cells (slC s) 36)).alloc (.cells #[.bool true, .bool di] 52)).alloc (.cells (rgC sl0 (.slice none 0 0)) 39)) w.heap.size 39 (rgC n v) := (((Blk.new _ _ _).alloc _).alloc _).alloc _
  have r1 : Blk ((((w.alloc (.cells (rgC n v) 39)).alloc (.cells (slC s) 36)).alloc (.cells #[.bool true, .bool di] 52)).alloc (.cells (rgC sl0 (.slice none 0 0)) 39)) (w.heap.size + 1) 36 (slC s) := ((Blk.new1 _ _ _ _).alloc _).alloc _
  have r2 : Blk ((((w.alloc (.cells (rgC n v) 39)).alloc (.cells (slC s) 36)).alloc (.cells #[.bool true, .bool di] 52)).alloc (.cells (rgC sl0 (.slice none 0 0)) 39)) (w.heap.size + 2) 52 #[.bool true, .bool di] := (Blk.new2 _ _ _ _ _).alloc _
  have r3 : Blk ((((w.alloc (.cells (rgC n v) 39)).alloc (.cells (slC s) 36)).alloc (.cells #[.bool true, .bool di] 52)).alloc (.cells (rgC sl0 (.slice none 0 0)) 39)) (w.heap.size + 3) 39 (rgC sl0 (.slice none 0 0)) := by
    have := Blk.new (((w.alloc (.cells (rgC n v) 39)).alloc (.cells (slC s) 36)).alloc (.cells #[.bool true, .bool di] 52)) 39 (rgC sl0 (.slice none 0 0))
    rwa [show (((w.alloc (.cells (rgC n v) 39)).alloc (.cells (slC s) 36)).alloc (.cells #[.bool true, .bool di] 52)).heap.size = w.heap.size + 3 by simp] at this
  have hb : Below w.heap.size w ((((w.alloc (.cells (rgC n v) 39)).alloc (.cells (slC s) 36)).alloc (.cells #[.bool true, .bool di] 52)).alloc (.cells (rgC sl0 (.slice none 0 0)) 39)) := (below_new3 _ _ _ _).alloc (by simp; omega) _
  have hs4 : ((((w.alloc (.cells (rgC n v) 39)).alloc (.cells (slC s) 36)).alloc (.cells #[.bool true, .bool di] 52)).alloc (.cells (rgC sl0 (.slice none 0 0)) 39)).heap.size = w.heap.size + 4 := by simp
  have x0 : ((((w.alloc (.cells (rgC n v) 39)).alloc (.cells (slC s) 36)).alloc (.cells #[.bool true, .bool di] 52)).alloc (.cells (rgC sl0 (.slice none 0 0)) 39)).cell? ⟨w.heap.size, 0, none⟩ = some (.int .u64 (n.1 : Int)) := rg_now _ _ r0
  have x1 : ((((w.alloc (.cells (rgC n v) 39)).alloc (.cells (slC s) 36)).alloc (.cells #[.bool true, .bool di] 52)).alloc (.cells (rgC sl0 (.slice none 0 0)) 39)).cell? ⟨w.heap.size + 1, 0, none⟩ = some (.int .u64 (s.1 : Int)) := by
    rw [r1.cell]
    exact va_at (slF s) (by decide)
  have x2 : ((((w.alloc (.cells (rgC n v) 39)).alloc (.cells (slC s) 36)).alloc (.cells #[.bool true, .bool di] 52)).alloc (.cells (rgC sl0 (.slice none 0 0)) 39)).cell? ⟨w.heap.size + 1, 1, none⟩ = some (.int .u32 (s.2.1 : Int)) := by
    rw [r1.cell]
    exact va_at (slF s) (by decide)
  have d0 : ((s.2.1 : Int) == 0) = false := by simpa using hs
  have d1 : ((n.1 : Int) == 18446744073709551615) = false := by
    rw [beq_eq_false_iff_ne]
    omega
  have d3 : ((n.1 : Int) + 1) % 18446744073709551616 = (n.1 : Int) + 1 := by omega
  have d4 : (s.1 : Int) = (n.1 : Int) + 1 := by omega
  rw [d4] at x1
  have y0 : ((((w.alloc (.cells (rgC n v) 39)).alloc (.cells (slC s) 36)).alloc (.cells #[.bool true, .bool di] 52)).alloc (.cells (rgC sl0 (.slice none 0 0)) 39)).cell? ⟨w.heap.size + 2, 0, none⟩ = some (.bool true) := by
    rw [r2.cell]
    rfl
  have y1 : ((((w.alloc (.cells (rgC n v) 39)).alloc (.cells (slC s) 36)).alloc (.cells #[.bool true, .bool di] 52)).alloc (.cells (rgC sl0 (.slice none 0 0)) 39)).cell? ⟨w.heap.size + 2, 1, none⟩ = some (.bool di) := by
    rw [r2.cell]
    rfl
  have HO4 : Hid (((((w.alloc (.cells (rgC n v) 39)).alloc (.cells (slC s) 36)).alloc (.cells #[.bool true, .bool di] 52)).alloc (.cells (rgC sl0 (.slice none 0 0)) 39)).ownsRow B 36 34 v L.length (slL L)) := kown_below HOW.out hb
  go_enter Try.func11, Try.ntmps11
  go_wp2_with fail
  have HMEM : Hid (∀ u ∈ slL L, u.oneCell' = true) := slL_mem_one L
  have HLT : Hid (∀ k, v.ownBlock = some k → k < w.heap.size) := fun k hk => (HOW.out.lt k hk).2
  clear x0 x1 x2 y0 y1 d0 d1 d3 d4
  generalize ((((w.alloc (.cells (rgC n v) 39)).alloc (.cells (slC s) 36)).alloc (.cells #[.bool true, .bool di] 52)).alloc (.cells (rgC sl0 (.slice none 0 0)) 39)) = w4 at *
  have rw4 : Hid (RW w w4 B n s v L di) := ⟨r0, r1, r2, r3, HO4.out, HLT.out, by omega, hb⟩
  clear r0 r1 r2 r3 hb hs4 HO4 HOW hs hn hf
  go_cut [9] (fun v9 wx => v9 = .bool false ∧ ∃ a' c', Blk wx w.heap.size 39 (rgC s (.slice a' (L.length + 1) c')) ∧ wx.ownsRow (w.heap.size + 4) 36 34 (.slice a' (L.length + 1) c') (L.length + 1) (slL (L ++ [s])) ∧ Blk wx (w.heap.size + 2) 52 #[.bool true, .bool di] ∧ Blk wx (w.heap.size + 3) 39 (rgC sl0 (.slice none 0 0)) ∧ Below w.heap.size w wx)
  case first =>
    have rwd : Hid (RW w w4.drew B n s v L di) := rw4.out.keep (Below.refl _ _).drew
    have hS0 : Blk w4.drew w.heap.size 39 (rgC n v) ∧ Blk w4.drew (w.heap.size + 1) 36 (slC s) := ⟨rwd.out.s0, rwd.out.s1⟩
    clear rw4
    refine wp_region_planW (fun W => Blk W w.heap.size 39 (rgC n v) ∧ Blk W (w.heap.size + 1) 36 (slC s)) [9] (.yield [] 0 (.yield [] 2 (.yield [] 3 (.yield [] 5 (.fork 1 6 (.fork 4 6 (.force [] 6 (.force [] 7 (.force [] 8 (.fin [])))) (.force [] 4 (.force [] 7 (.force [] 8 (.fin []))))) (.force [] 1 (.force [] 4 (.force [] 7 (.force [] 8 (.fin [])))))))))) (by kernel_rfl) (by kernel_rfl) hS0 (planW_yield ?_)
    generalize w4.drew = wd at *
    simp only [List.cons_append, List.nil_append, List.append_nil, List.filterMap_cons, List.filterMap_nil, List.getElem?_toArray, List.getElem?_cons_zero, List.getElem?_cons_succ]
    go_wp2_with fail
    refine ⟨rfl, _, .agg (slC s), rfl, kyields_load (by rfl) 36 _ (by rfl) (w.heap.size + 1) 34 (slF s) (by rfl) _ 36 (fun W hW => hW.2) Try.underlying36 rfl sizeRslot, planW_yield ?_⟩
    simp only [Act.put, List.setIfInBounds_toArray, List.set_cons_zero, List.set_cons_succ]
    simp only [List.cons_append, List.nil_append, List.append_nil, List.filterMap_cons, List.filterMap_nil, List.getElem?_toArray, List.getElem?_cons_zero, List.getElem?_cons_succ]
    go_wp2_with fail
    refine ⟨rfl, _, .pointer (some ⟨w.heap.size, 34, none⟩), rfl, Or.inl ⟨by rfl, fun W hW => by go_simp⟩, planW_yield ?_⟩
    simp only [Act.put, List.setIfInBounds_toArray, List.set_cons_zero, List.set_cons_succ]
    simp only [List.cons_append, List.nil_append, List.append_nil, List.filterMap_cons, List.filterMap_nil, List.getElem?_toArray, List.getElem?_cons_zero, List.getElem?_cons_succ]
    go_wp2_with fail
    refine ⟨rfl, _, v, rfl, Or.inl ⟨by rfl, fun W hW => by have hW1 : W.cell? ⟨w.heap.size, 34, none⟩ = some v := rg_list _ _ hW.1; go_simp⟩, planW_yield ?_⟩
    simp only [Act.put, List.setIfInBounds_toArray, List.set_cons_zero, List.set_cons_succ]
    simp only [List.cons_append, List.nil_append, List.append_nil, List.filterMap_cons, List.filterMap_nil, List.getElem?_toArray, List.getElem?_cons_zero, List.getElem?_cons_succ]
    go_wp2_with fail
    refine ⟨rfl, _, .agg (slC s), rfl, kyields_load (by rfl) 36 _ (by rfl) (w.heap.size + 1) 34 (slF s) (by rfl) _ 36 (fun W hW => hW.2) Try.underlying36 rfl sizeRslot, planW_fork ?_ ?_⟩
    simp only [Act.put, List.setIfInBounds_toArray, List.set_cons_zero, List.set_cons_succ]
    · simp only [List.cons_append, List.nil_append, List.append_nil, List.filterMap_cons, List.filterMap_nil, List.getElem?_toArray, List.getElem?_cons_zero, List.getElem?_cons_succ]
      go_wp2_with fail
      have rwp : Hid (RW w (wd.alloc (.cells #[] 36)) B n s v L di) := rwd.out.more _
      have owp : Hid ((wd.alloc (.cells #[] 36)).ownsRow (w.heap.size + 4) 36 34 (.slice (some ⟨wd.heap.size, 0, none⟩) 0 0) 0 []) := kown_empty (Blk.new wd 36 #[]) rwd.out.sz
      refine ⟨rfl, ⟨rwp.out.s0, rwp.out.s1⟩, planW_fork ?_ ?_⟩
      · simp only [List.cons_append, List.nil_append, List.append_nil, List.filterMap_cons, List.filterMap_nil, List.getElem?_toArray, List.getElem?_cons_zero, List.getElem?_cons_succ]
        refine wpList_append_own_own rfl _ _ 37 rfl (w.heap.size + 4) 36 i0 (slV sl0) 34 48 Try.underlying37 hi hz0 hz1 hz2 (slC_size _) (by decide) (.slice (some ⟨wd.heap.size, 0, none⟩) 0 0) 0 [] rfl owp.out v B L.length (slL L) rfl rwp.out.own HMEM.out (by unfold maxLen; omega) (by omega) rwp.out.sz ?_
        intro vq wq hown hgrow hwh
        simp only [Act.put, List.setIfInBounds_toArray, List.set_cons_zero, List.set_cons_succ]
        have hbg : Below (w.heap.size + 4) (wd.alloc (.cells #[] 36)) wq := (Below.refl _ _).grown hgrow rwp.out.sz (fun k hk => (owp.out.lt k hk).1)
        have rwq : Hid (RW w wq B n s v L di) := rwp.out.keep hbg
        have owq : Hid (wq.ownsRow (w.heap.size + 4) 36 34 vq L.length (slL L)) := by
          have := hown
          rw [Nat.zero_add, List.nil_append] at this
          exact this
        clear hgrow hwh hbg hown
        go_wp2_with fail
        refine ⟨rfl, ⟨rwq.out.s0, rwq.out.s1⟩, planW_force ?_⟩
        simp only [List.cons_append, List.nil_append, List.append_nil, List.filterMap_cons, List.filterMap_nil, List.getElem?_toArray, List.getElem?_cons_zero, List.getElem?_cons_succ]
        refine wpList_build1 (by rfl) 37 36 _ (by rfl) (slC s) (by rfl) i0 _ 34 Try.underlying37 hi hz0 hz1 (slC_size _) (by decide) (by decide) ?_
        simp only [Act.put, List.setIfInBounds_toArray, List.set_cons_zero, List.set_cons_succ]
        go_wp2_with fail
        have rwr : Hid (RW w (wq.alloc (.cells (slC s) 36)) B n s v L di) := rwq.out.more _
        have bsr : Blk (wq.alloc (.cells (slC s) 36)) wq.heap.size 36 (slC s) := Blk.new _ _ _
        have owr : Hid ((wq.alloc (.cells (slC s) 36)).ownsRow (w.heap.size + 4) 36 34 vq L.length (slL L)) := owq.out.alloc _
        refine ⟨rfl, ⟨rwr.out.s0, rwr.out.s1⟩, planW_force ?_⟩
        simp only [List.cons_append, List.nil_append, List.append_nil, List.filterMap_cons, List.filterMap_nil, List.getElem?_toArray, List.getElem?_cons_zero, List.getElem?_cons_succ]
        refine wpList_append_own_at rfl _ _ 37 rfl (w.heap.size + 4) 36 i0 (slV sl0) 34 48 Try.underlying37 hi hz0 hz1 hz2 (slC_size _) (by decide) vq L.length (slL L) rfl owr.out ⟨wq.heap.size, 0, none⟩ 1 1 (slC s).toList rfl (by rw [Array.length_toList, slC_size]) (fun j u hu => by rw [Addr.add_mid, Nat.zero_add, bsr.cell]; simpa using hu) (slC_one s) (by unfold maxLen; omega) (by omega) rwr.out.sz ?_
        intro vz wz hown hgrow hwh
        simp only [Act.put, List.setIfInBounds_toArray, List.set_cons_zero, List.set_cons_succ]
        have hbg : Below (w.heap.size + 4) (wq.alloc (.cells (slC s) 36)) wz := (Below.refl _ _).grown hgrow rwr.out.sz (fun k hk => (owr.out.lt k hk).1)
        have rwz : Hid (RW w wz B n s v L di) := rwr.out.keep hbg
        obtain ⟨a7, c7, rfl⟩ := kown_slice hown
        have owz : Hid (wz.ownsRow (w.heap.size + 4) 36 34 (.slice a7 (L.length + 1) c7) (L.length + 1) (slL (L ++ [s]))) := by
          have := hown
          rw [← slL_snoc] at this
          exact this
        clear hgrow hwh hbg hown
        go_wp2_with fail
        refine ⟨rfl, ⟨rwz.out.s0, rwz.out.s1⟩, planW_force ?_⟩
        simp only [List.cons_append, List.nil_append, List.append_nil, List.filterMap_cons, List.filterMap_nil, List.getElem?_toArray, List.getElem?_cons_zero, List.getElem?_cons_succ]
        refine wpList_build2 (by rfl) 39 _ _ (by rfl) (.agg (slC s)) (.slice a7 (L.length + 1) c7) (by rfl) (by rfl) (rgC s (.slice a7 (L.length + 1) c7)) (built_rg s a7 (L.length + 1) c7) ?_
        simp only [Act.put, List.setIfInBounds_toArray, List.set_cons_zero, List.set_cons_succ]
        go_wp2_with fail
        refine ⟨rfl, ⟨rwz.out.s0, rwz.out.s1⟩, planW_fin ?_⟩
        simp only [List.cons_append, List.nil_append, List.append_nil, List.filterMap_cons, List.filterMap_nil, List.getElem?_toArray, List.getElem?_cons_zero, List.getElem?_cons_succ]
        refine wpList_store_row (by rfl) 39 _ _ (by rfl) (w.heap.size) (rgC s (.slice a7 (L.length + 1) c7)) (by rfl) (by rfl) 39 _ rwz.out.s0 (rgSize.trans (by rw [rgC_size])) (by simp only [rgC_size]) (rgC_all _ _ _ _) ?_
        simp only [Act.put, List.setIfInBounds_toArray, List.set_cons_zero, List.set_cons_succ]
        go_wp2_with fail
        refine ⟨rfl, ?_⟩
        go_wp2_with fail
        go_meet
        exact ⟨rfl, a7, c7, rwz.out.s0.set _, kown_setRow owz.out (fun k hk _ => by omega) _, rwz.out.s2.other _ (by omega), rwz.out.s3.other _ (by omega), below_setRow rwz.out.low (Nat.le_refl _) _⟩
      · simp only [List.cons_append, List.nil_append, List.append_nil, List.filterMap_cons, List.filterMap_nil, List.getElem?_toArray, List.getElem?_cons_zero, List.getElem?_cons_succ]
        refine wpList_build1 (by rfl) 37 36 _ (by rfl) (slC s) (by rfl) i0 _ 34 Try.underlying37 hi hz0 hz1 (slC_size _) (by decide) (by decide) ?_
        simp only [Act.put, List.setIfInBounds_toArray, List.set_cons_zero, List.set_cons_succ]
        go_wp2_with fail
        have rwu : Hid (RW w ((wd.alloc (.cells #[] 36)).alloc (.cells (slC s) 36)) B n s v L di) := rwp.out.more _
        have bsu : Blk ((wd.alloc (.cells #[] 36)).alloc (.cells (slC s) 36)) (wd.alloc (.cells #[] 36)).heap.size 36 (slC s) := Blk.new _ _ _
        have owu : Hid (((wd.alloc (.cells #[] 36)).alloc (.cells (slC s) 36)).ownsRow (w.heap.size + 4) 36 34 (.slice (some ⟨wd.heap.size, 0, none⟩) 0 0) 0 []) := owp.out.alloc _
        refine ⟨rfl, ⟨rwu.out.s0, rwu.out.s1⟩, planW_force ?_⟩
        simp only [List.cons_append, List.nil_append, List.append_nil, List.filterMap_cons, List.filterMap_nil, List.getElem?_toArray, List.getElem?_cons_zero, List.getElem?_cons_succ]
        refine wpList_append_own_own rfl _ _ 37 rfl (w.heap.size + 4) 36 i0 (slV sl0) 34 48 Try.underlying37 hi hz0 hz1 hz2 (slC_size _) (by decide) (.slice (some ⟨wd.heap.size, 0, none⟩) 0 0) 0 [] rfl owu.out v B L.length (slL L) rfl rwu.out.own HMEM.out (by unfold maxLen; omega) (by omega) rwu.out.sz ?_
        intro vq wq hown hgrow hwh
        simp only [Act.put, List.setIfInBounds_toArray, List.set_cons_zero, List.set_cons_succ]
        have hbg : Below (w.heap.size + 4) ((wd.alloc (.cells #[] 36)).alloc (.cells (slC s) 36)) wq := (Below.refl _ _).grown hgrow rwu.out.sz (fun k hk => (owu.out.lt k hk).1)
        have rwq : Hid (RW w wq B n s v L di) := rwu.out.keep hbg
        have owq : Hid (wq.ownsRow (w.heap.size + 4) 36 34 vq L.length (slL L)) := by
          have := hown
          rw [Nat.zero_add, List.nil_append] at this
          exact this
        have bsq : Blk wq (wd.alloc (.cells #[] 36)).heap.size 36 (slC s) := (hgrow.block _ bsu.lt (by simp [Value.ownBlock])).trans bsu
        clear hgrow hwh hbg hown
        go_wp2_with fail
        refine ⟨rfl, ⟨rwq.out.s0, rwq.out.s1⟩, planW_force ?_⟩
        simp only [List.cons_append, List.nil_append, List.append_nil, List.filterMap_cons, List.filterMap_nil, List.getElem?_toArray, List.getElem?_cons_zero, List.getElem?_cons_succ]
        refine wpList_append_own_at rfl _ _ 37 rfl (w.heap.size + 4) 36 i0 (slV sl0) 34 48 Try.underlying37 hi hz0 hz1 hz2 (slC_size _) (by decide) vq L.length (slL L) rfl owq.out ⟨(wd.alloc (.cells #[] 36)).heap.size, 0, none⟩ 1 1 (slC s).toList rfl (by rw [Array.length_toList, slC_size]) (fun j u hu => by rw [Addr.add_mid, Nat.zero_add, bsq.cell]; simpa using hu) (slC_one s) (by unfold maxLen; omega) (by omega) rwq.out.sz ?_
        intro vz wz hown hgrow hwh
        simp only [Act.put, List.setIfInBounds_toArray, List.set_cons_zero, List.set_cons_succ]
        have hbg : Below (w.heap.size + 4) wq wz := (Below.refl _ _).grown hgrow rwq.out.sz (fun k hk => (owq.out.lt k hk).1)
        have rwz : Hid (RW w wz B n s v L di) := rwq.out.keep hbg
        obtain ⟨a7, c7, rfl⟩ := kown_slice hown
        have owz : Hid (wz.ownsRow (w.heap.size + 4) 36 34 (.slice a7 (L.length + 1) c7) (L.length + 1) (slL (L ++ [s]))) := by
          have := hown
          rw [← slL_snoc] at this
          exact this
        clear hgrow hwh hbg hown
        go_wp2_with fail
        refine ⟨rfl, ⟨rwz.out.s0, rwz.out.s1⟩, planW_force ?_⟩
        simp only [List.cons_append, List.nil_append, List.append_nil, List.filterMap_cons, List.filterMap_nil, List.getElem?_toArray, List.getElem?_cons_zero, List.getElem?_cons_succ]
        refine wpList_build2 (by rfl) 39 _ _ (by rfl) (.agg (slC s)) (.slice a7 (L.length + 1) c7) (by rfl) (by rfl) (rgC s (.slice a7 (L.length + 1) c7)) (built_rg s a7 (L.length + 1) c7) ?_
        simp only [Act.put, List.setIfInBounds_toArray, List.set_cons_zero, List.set_cons_succ]
        go_wp2_with fail
        refine ⟨rfl, ⟨rwz.out.s0, rwz.out.s1⟩, planW_fin ?_⟩
        simp only [List.cons_append, List.nil_append, List.append_nil, List.filterMap_cons, List.filterMap_nil, List.getElem?_toArray, List.getElem?_cons_zero, List.getElem?_cons_succ]
        refine wpList_store_row (by rfl) 39 _ _ (by rfl) (w.heap.size) (rgC s (.slice a7 (L.length + 1) c7)) (by rfl) (by rfl) 39 _ rwz.out.s0 (rgSize.trans (by rw [rgC_size])) (by simp only [rgC_size]) (rgC_all _ _ _ _) ?_
        simp only [Act.put, List.setIfInBounds_toArray, List.set_cons_zero, List.set_cons_succ]
        go_wp2_with fail
        refine ⟨rfl, ?_⟩
        go_wp2_with fail
        go_meet
        exact ⟨rfl, a7, c7, rwz.out.s0.set _, kown_setRow owz.out (fun k hk _ => by omega) _, rwz.out.s2.other _ (by omega), rwz.out.s3.other _ (by omega), below_setRow rwz.out.low (Nat.le_refl _) _⟩
    · simp only [List.cons_append, List.nil_append, List.append_nil, List.filterMap_cons, List.filterMap_nil, List.getElem?_toArray, List.getElem?_cons_zero, List.getElem?_cons_succ]
      refine wpList_build1 (by rfl) 37 36 _ (by rfl) (slC s) (by rfl) i0 _ 34 Try.underlying37 hi hz0 hz1 (slC_size _) (by decide) (by decide) ?_
      simp only [Act.put, List.setIfInBounds_toArray, List.set_cons_zero, List.set_cons_succ]
      go_wp2_with fail
      have rwu : Hid (RW w (wd.alloc (.cells (slC s) 36)) B n s v L di) := rwd.out.more _
      have bsu : Blk (wd.alloc (.cells (slC s) 36)) wd.heap.size 36 (slC s) := Blk.new _ _ _
      refine ⟨rfl, ⟨rwu.out.s0, rwu.out.s1⟩, planW_force ?_⟩
      simp only [List.cons_append, List.nil_append, List.append_nil, List.filterMap_cons, List.filterMap_nil, List.getElem?_toArray, List.getElem?_cons_zero, List.getElem?_cons_succ]
      go_wp2_with fail
      have rwp : Hid (RW w ((wd.alloc (.cells (slC s) 36)).alloc (.cells #[] 36)) B n s v L di) := rwu.out.more _
      have owp : Hid (((wd.alloc (.cells (slC s) 36)).alloc (.cells #[] 36)).ownsRow (w.heap.size + 4) 36 34 (.slice (some ⟨wd.heap.size + 1, 0, none⟩) 0 0) 0 []) := by
        have := kown_empty (size := 34) (Blk.new (wd.alloc (.cells (slC s) 36)) 36 #[]) rwu.out.sz
        rw [show (wd.alloc (.cells (slC s) 36)).heap.size = wd.heap.size + 1 by simp] at this
        exact this
      have bsp : Blk ((wd.alloc (.cells (slC s) 36)).alloc (.cells #[] 36)) wd.heap.size 36 (slC s) := bsu.alloc _
      refine ⟨rfl, ⟨rwp.out.s0, rwp.out.s1⟩, planW_force ?_⟩
      simp only [List.cons_append, List.nil_append, List.append_nil, List.filterMap_cons, List.filterMap_nil, List.getElem?_toArray, List.getElem?_cons_zero, List.getElem?_cons_succ]
      refine wpList_append_own_own rfl _ _ 37 rfl (w.heap.size + 4) 36 i0 (slV sl0) 34 48 Try.underlying37 hi hz0 hz1 hz2 (slC_size _) (by decide) (.slice (some ⟨wd.heap.size + 1, 0, none⟩) 0 0) 0 [] rfl owp.out v B L.length (slL L) rfl rwp.out.own HMEM.out (by unfold maxLen; omega) (by omega) rwp.out.sz ?_
      intro vq wq hown hgrow hwh
      simp only [Act.put, List.setIfInBounds_toArray, List.set_cons_zero, List.set_cons_succ]
      have hbg : Below (w.heap.size + 4) ((wd.alloc (.cells (slC s) 36)).alloc (.cells #[] 36)) wq := (Below.refl _ _).grown hgrow rwp.out.sz (fun k hk => (owp.out.lt k hk).1)
      have rwq : Hid (RW w wq B n s v L di) := rwp.out.keep hbg
      have owq : Hid (wq.ownsRow (w.heap.size + 4) 36 34 vq L.length (slL L)) := by
        have := hown
        rw [Nat.zero_add, List.nil_append] at this
        exact this
      have bsq : Blk wq wd.heap.size 36 (slC s) := (hgrow.block _ bsp.lt (by simp [Value.ownBlock])).trans bsp
      clear hgrow hwh hbg hown
      go_wp2_with fail
      refine ⟨rfl, ⟨rwq.out.s0, rwq.out.s1⟩, planW_force ?_⟩
      simp only [List.cons_append, List.nil_append, List.append_nil, List.filterMap_cons, List.filterMap_nil, List.getElem?_toArray, List.getElem?_cons_zero, List.getElem?_cons_succ]
      refine wpList_append_own_at rfl _ _ 37 rfl (w.heap.size + 4) 36 i0 (slV sl0) 34 48 Try.underlying37 hi hz0 hz1 hz2 (slC_size _) (by decide) vq L.length (slL L) rfl owq.out ⟨wd.heap.size, 0, none⟩ 1 1 (slC s).toList rfl (by rw [Array.length_toList, slC_size]) (fun j u hu => by rw [Addr.add_mid, Nat.zero_add, bsq.cell]; simpa using hu) (slC_one s) (by unfold maxLen; omega) (by omega) rwq.out.sz ?_
      intro vz wz hown hgrow hwh
      simp only [Act.put, List.setIfInBounds_toArray, List.set_cons_zero, List.set_cons_succ]
      have hbg : Below (w.heap.size + 4) wq wz := (Below.refl _ _).grown hgrow rwq.out.sz (fun k hk => (owq.out.lt k hk).1)
      have rwz : Hid (RW w wz B n s v L di) := rwq.out.keep hbg
      obtain ⟨a7, c7, rfl⟩ := kown_slice hown
      have owz : Hid (wz.ownsRow (w.heap.size + 4) 36 34 (.slice a7 (L.length + 1) c7) (L.length + 1) (slL (L ++ [s]))) := by
        have := hown
        rw [← slL_snoc] at this
        exact this
      clear hgrow hwh hbg hown
      go_wp2_with fail
      refine ⟨rfl, ⟨rwz.out.s0, rwz.out.s1⟩, planW_force ?_⟩
      simp only [List.cons_append, List.nil_append, List.append_nil, List.filterMap_cons, List.filterMap_nil, List.getElem?_toArray, List.getElem?_cons_zero, List.getElem?_cons_succ]
      refine wpList_build2 (by rfl) 39 _ _ (by rfl) (.agg (slC s)) (.slice a7 (L.length + 1) c7) (by rfl) (by rfl) (rgC s (.slice a7 (L.length + 1) c7)) (built_rg s a7 (L.length + 1) c7) ?_
      simp only [Act.put, List.setIfInBounds_toArray, List.set_cons_zero, List.set_cons_succ]
      go_wp2_with fail
      refine ⟨rfl, ⟨rwz.out.s0, rwz.out.s1⟩, planW_fin ?_⟩
      simp only [List.cons_append, List.nil_append, List.append_nil, List.filterMap_cons, List.filterMap_nil, List.getElem?_toArray, List.getElem?_cons_zero, List.getElem?_cons_succ]
      refine wpList_store_row (by rfl) 39 _ _ (by rfl) (w.heap.size) (rgC s (.slice a7 (L.length + 1) c7)) (by rfl) (by rfl) 39 _ rwz.out.s0 (rgSize.trans (by rw [rgC_size])) (by simp only [rgC_size]) (rgC_all _ _ _ _) ?_
      simp only [Act.put, List.setIfInBounds_toArray, List.set_cons_zero, List.set_cons_succ]
      go_wp2_with fail
      refine ⟨rfl, ?_⟩
      go_wp2_with fail
      go_meet
      exact ⟨rfl, a7, c7, rwz.out.s0.set _, kown_setRow owz.out (fun k hk _ => by omega) _, rwz.out.s2.other _ (by omega), rwz.out.s3.other _ (by omega), below_setRow rwz.out.low (Nat.le_refl _) _⟩
  case rest =>
    obtain ⟨rfl, a', c', k0, hown, k2, k3, hb⟩ := hcut
    rename World => wx
    have y1 : wx.cell? ⟨w.heap.size + 2, 1, none⟩ = some (.bool di) := by
      rw [k2.cell]
      rfl
    have HO : Hid (wx.ownsRow (w.heap.size + 4) 36 34 (.slice a' (L.length + 1) c') (L.length + 1) (slL (L ++ [s]))) := hown
    clear hown k2 rw4
    cases di
    · go_wp2_with (first
        | (refine wpList_load_rowg (by rfl) 39 _ (by rfl) (w.heap.size) (by rfl) 39 (rgC s (.slice a' (L.length + 1) c')) (0, 0) _ (by exact k0) Try.underlying39 (by rfl) (rgSize.trans (by rw [rgC_size])) ?_; simp only [Act.put, List.setIfInBounds_toArray, List.set_cons_zero, List.set_cons_succ])
        | (refine wpList_store_row (by rfl) 39 _ _ (by rfl) (w.heap.size + 3) (rgC s (.slice a' (L.length + 1) c')) (by rfl) (by rfl) 39 (_) (by exact k3) (rgSize.trans (by rw [rgC_size])) (by simp only [rgC_size]) (rgC_all _ _ _ _) ?_; simp only [Act.put, List.setIfInBounds_toArray, List.set_cons_zero, List.set_cons_succ])
        | fail)
      try simp only [Exit.inBlock, Exit.then]
      refine bodyPost_ret (results_row3 Try.results11 _ _ (w.heap.size + 3) 39 (rgC s (.slice a' (L.length + 1) c')) (0, 0) _ rfl (k3.set _) Try.underlying39 rfl (rgSize.trans (by rw [rgC_size]))) rfl ?_
      exact ⟨a', c', rfl, kown_mono (kown_setRow HO.out (fun k hk _ => by omega) _) (by omega), below_setRow hb (by omega) _⟩
    · go_wp2_with (first
        | (refine wpList_load_rowg (by rfl) 39 _ (by rfl) (w.heap.size) (by rfl) 39 (rgC s (.slice a' (L.length + 1) c')) (0, 0) _ (by exact k0) Try.underlying39 (by rfl) (rgSize.trans (by rw [rgC_size])) ?_; simp only [Act.put, List.setIfInBounds_toArray, List.set_cons_zero, List.set_cons_succ])
        | (refine wpList_store_row (by rfl) 39 _ _ (by rfl) (w.heap.size + 3) (rgC s (.slice a' (L.length + 1) c')) (by rfl) (by rfl) 39 (_) (by exact k3) (rgSize.trans (by rw [rgC_size])) (by simp only [rgC_size]) (rgC_all _ _ _ _) ?_; simp only [Act.put, List.setIfInBounds_toArray, List.set_cons_zero, List.set_cons_succ])
        | fail)
      try simp only [Exit.inBlock, Exit.then]
      refine bodyPost_ret (results_row3 Try.results11 _ _ (w.heap.size + 3) 39 (rgC s (.slice a' (L.length + 1) c')) (0, 0) _ rfl (k3.set _) Try.underlying39 rfl (rgSize.trans (by rw [rgC_size]))) rfl ?_
      exact ⟨a', c', rfl, kown_mono (kown_setRow HO.out (fun k hk _ => by omega) _) (by omega), below_setRow hb (by omega) _⟩
end
end Go.Proofs.Ytdhbjcnbdfidcaa

namespace Go.Proofs.Ytdhbjcnbdfidcaa
open Go Go.RowKit
set_option linter.unusedSimpArgs false
set_option linter.unusedVariables false

theorem sl_load_blkg {P : Program} {ops : Array Oper} {rest : List Oper} {op : Oper} {a : Act} {w : World} {Q : Exit → Act → World → Prop} (hw : Region.wanted op (yielded ops a.tmps) = true) (ty : TypeId) (x : Operand) (ho : op.op = .load ty x)
    (b o n : Nat) (f : Nat → Value) (hx : a.eval x = .pointer (some ⟨b, o, none⟩)) (d : TypeDesc) (hc : w.rangeAt b o ((List.range n).map f))
    (hu : P.underlying ty = some d) (hd : d.isRow = true) (hi : (P.info? ty).map (·.size) = some n)
    (h : wpList P ops Q rest (a.put op.dst (.agg (va n f))) w) : wpList P ops Q (op :: rest) a w :=
  wpList_step fun K hK => by
    rw [if_pos hw]
    exact wp_load_mid ty x ho b o hx _ d hc hu hd (hi.trans (by simp)) (hK _ _ h)
theorem slC_set0 (c a c' : Nat) (d : Vector Nat 32) : (slC (c, a, d)).setIfInBounds 0 (.int .u64 (c' : Int)) = slC (c', a, d) := by
  unfold slC
  rw [va_set]
  refine va_congr fun i _ => ?_
  unfold upd
  by_cases h : i = 0
  · subst h
    rw [if_pos rfl]
    rfl
  · rw [if_neg h]
    unfold slF
    rw [if_neg h, if_neg h]
theorem slC_set1 (c a a' : Nat) (d : Vector Nat 32) : (slC (c, a, d)).setIfInBounds 1 (.int .u32 (a' : Int)) = slC (c, a', d) := by
  unfold slC
  rw [va_set]
  refine va_congr fun i _ => ?_
  unfold upd
  by_cases h : i = 1
  · subst h
    rw [if_pos rfl]
    rfl
  · rw [if_neg h]
    unfold slF
    rw [if_neg h, if_neg h]
theorem slC_set2 (c a k z : Nat) (hk : k < 32) (f : Nat → Nat) : (slC (c, a, sumD f)).setIfInBounds (2 + k) (.int .u8 (z : Int)) = slC (c, a, sumD fun j => if j = k then z else f j) := by
  unfold slC
  rw [va_set]
  refine va_congr fun i hi => ?_
  unfold upd
  by_cases h : i = 2 + k
  · subst h
    rw [if_pos rfl]
    unfold slF
    rw [if_neg (by omega), if_neg (by omega), show dF (c, a, sumD fun j => if j = k then z else f j).2.2 (2 + k - 2) = z by
      show dF (sumD fun j => if j = k then z else f j) (2 + k - 2) = z
      rw [dF_sumD _ _ (by omega), if_pos (by omega)]]
  · rw [if_neg h]
    unfold slF
    by_cases h0 : i = 0
    · rw [if_pos h0, if_pos h0]
    · by_cases h1 : i = 1
      · rw [if_neg h0, if_pos h1, if_neg h0, if_pos h1]
      · rw [if_neg h0, if_neg h1, if_neg h0, if_neg h1]
        have e : dF (c, a, sumD fun j => if j = k then z else f j).2.2 (i - 2) = dF (c, a, sumD f).2.2 (i - 2) := by
          show dF (sumD fun j => if j = k then z else f j) (i - 2) = dF (sumD f) (i - 2)
          rw [dF_sumD _ _ (by omega), dF_sumD _ _ (by omega), if_neg (by omega)]
        rw [e]
theorem sl0_sum : Vector.replicate 32 0 = sumD fun _ => 0 := dF_inj fun i hi => by
  rw [dF_sumD _ _ hi]
  unfold dF
  simp [hi]
theorem sizeRsum : (Try.prog.info? 34).map (·.size) = some 32 := by kernel_rfl
theorem zero_rsum (w : World) : (zeroValue 34).run Try.prog w = .ok (dK (Vector.replicate 32 0)) w := by
  have h : (Try.prog.info? 34).bind (·.zero) = some (dK (Vector.replicate 32 0)) := by kernel_rfl
  cases hq : Try.prog.info? 34 with
  | none => simp [hq] at h
  | some i =>
    have hi : i.zero = some (dK (Vector.replicate 32 0)) := by simpa [hq] using h
    simp [zeroValue, typeInfo, hq, hi]
end Go.Proofs.Ytdhbjcnbdfidcaa

namespace Go.Proofs.Ytdhbjcnbdfidcaa
open Go Go.RowKit
set_option linter.unusedSimpArgs false
set_option linter.unusedVariables false

theorem decA_eq (s : ByteArray) (hs : s.size = 44) : decA s = if (decS s).2.1 = 0 ∧ decS s ≠ sl0 then (sl0, 61) else (decS s, 0) := by
  unfold decA
  by_cases hc : (decS s).2.1 = 0 ∧ decS s ≠ sl0
  · rw [if_neg (fun h => h.2 hc), if_pos hc]
  · rw [if_pos ⟨hs, hc⟩, if_neg hc]
/-- two structs of three fields compared -/
theorem run_eq_three {P : Program} {w : World} {d : Nat} {t t1 t2 t3 o1 o2 o3 : Nat} {cs ds : Array Value} {x1 y1 x2 y2 x3 y3 : Value} {b1 b2 b3 : Bool} (hu : P.underlying t = some (.struct (P.fieldsOf t))) (hp : P.stoodInHeld t = false)
    (hf : (P.fieldsOf t).toList.map (fun f => (f.name == "_", f.type, f.offset)) = [(false, t1, o1), (false, t2, o2), (false, t3, o3)])
    (p1 : (part t1 cs o1).run P w = .ok x1 w) (q1 : (part t1 ds o1).run P w = .ok y1 w) (p2 : (part t2 cs o2).run P w = .ok x2 w) (q2 : (part t2 ds o2).run P w = .ok y2 w) (p3 : (part t3 cs o3).run P w = .ok x3 w) (q3 : (part t3 ds o3).run P w = .ok y3 w)
    (h1 : (Op.equalIn d t1 x1 y1).run P w = .ok b1 w) (h2 : (Op.equalIn d t2 x2 y2).run P w = .ok b2 w) (h3 : (Op.equalIn d t3 x3 y3).run P w = .ok b3 w) : (Op.equalIn (d + 1) t (.agg cs) (.agg ds)).run P w = .ok (b1 && (b2 && b3)) w := by
  rw [run_equalIn_struct w d t cs ds hu hp]
  obtain ⟨f, l1, e1, hf1, hl1⟩ := List.map_eq_cons_iff.1 hf
  obtain ⟨g, l2, e2, hg1, hl2⟩ := List.map_eq_cons_iff.1 hl1
  obtain ⟨h, l3, e3, hh1, hl3⟩ := List.map_eq_cons_iff.1 hl2
  have e4 := List.map_eq_nil_iff.1 hl3
  subst e4 e3 e2
  rw [e1]
  simp only [Prod.mk.injEq] at hf1 hg1 hh1
  obtain ⟨n1, rfl, rfl⟩ := hf1
  obtain ⟨n2, rfl, rfl⟩ := hg1
  obtain ⟨n3, rfl, rfl⟩ := hh1
  have n1' : f.name ≠ "_" := by simpa using n1
  have n2' : g.name ≠ "_" := by simpa using n2
  have n3' : h.name ≠ "_" := by simpa using n3
  unfold Op.eqFields
  rw [if_pos n1']
  unfold Op.eqFields
  rw [if_pos n2']
  unfold Op.eqFields
  rw [if_pos n3']
  simp only [Sem.run_bind, p1, q1, Result.andThen_ok, h1]
  cases b1
  · simp
  · simp only [Bool.not_true, Bool.false_eq_true, if_false, Sem.run_bind, p2, q2, Result.andThen_ok, h2]
    cases b2
    · simp
    · simp only [Bool.not_true, Bool.false_eq_true, if_false, Sem.run_bind, p3, q3, Result.andThen_ok, h3]
      cases b3
      · simp
      · simp [Op.eqFields]
theorem part_rsum (s : Sl) (w : World) : (part 34 (slC s) 2).run Try.prog w = .ok (dK s.2.2) w := by
  have e : (slC s).extract 2 (2 + 32) = va 32 (iv .u8 (dF s.2.2)) := by
    unfold slC
    rw [va_extract 34 2 32 _ (by decide), sl_sum]
  simp [part, isAgg, run_underlying Try.underlying34, size_at _ _ sizeRsum]
  unfold dK
  rw [← e]
theorem eq_rslot (a b : Sl) (w : World) : (Op.equalIn 10000 36 (.agg (slC a)) (.agg (slC b))).run Try.prog w = .ok (decide (a = b)) w := by
  have h1 : (Op.equalIn 9999 31 (.int .u64 (a.1 : Int)) (.int .u64 (b.1 : Int))).run Try.prog w = .ok ((a.1 : Int) == (b.1 : Int)) w := run_equalIn_int w 9998 _ _ .u64 _ _ Try.underlying31
  have h2 : (Op.equalIn 9999 32 (.int .u32 (a.2.1 : Int)) (.int .u32 (b.2.1 : Int))).run Try.prog w = .ok ((a.2.1 : Int) == (b.2.1 : Int)) w := run_equalIn_int w 9998 _ _ .u32 _ _ Try.underlying32
  have h3 := eq_digAt 9997 34 Try.underlying34 a.2.2 b.2.2 w
  have hd : decide (a = b) = (((a.1 : Int) == (b.1 : Int)) && (((a.2.1 : Int) == (b.2.1 : Int)) && decide (a.2.2 = b.2.2))) := by
    obtain ⟨a1, a2, a3⟩ := a
    obtain ⟨b1, b2, b3⟩ := b
    rw [Bool.eq_iff_iff]
    simp only [decide_eq_true_eq, Bool.and_eq_true, beq_iff_eq, Prod.mk.injEq]
    constructor
    · rintro ⟨h, k, l⟩
      exact ⟨by omega, by omega, l⟩
    · rintro ⟨h, k, l⟩
      exact ⟨by omega, by omega, l⟩
  rw [hd]
  have p1 := part_counter a w
  have q1 := part_counter b w
  have p2 : (part 32 (slC a) 1).run Try.prog w = .ok (.int .u32 ((a.2.1 : Nat) : Int)) w := part_int _ _ Try.underlying32 _ _ _ (va_at (slF a) (by decide)) w
  have q2 : (part 32 (slC b) 1).run Try.prog w = .ok (.int .u32 ((b.2.1 : Nat) : Int)) w := part_int _ _ Try.underlying32 _ _ _ (va_at (slF b) (by decide)) w
  have p3 := part_rsum a w
  have q3 := part_rsum b w
  generalize slC a = cs at *
  generalize slC b = ds at *
  have hu : Try.prog.underlying 36 = some (.struct (Try.prog.fieldsOf 36)) := by kernel_rfl
  have hp : Try.prog.stoodInHeld 36 = false := by kernel_rfl
  have hf : (Try.prog.fieldsOf 36).toList.map (fun f => (f.name == "_", f.type, f.offset)) = [(false, 31, 0), (false, 32, 1), (false, 34, 2)] := by kernel_rfl
  exact run_eq_three hu hp hf p1 q1 p2 q2 p3 q3 h1 h2 h3
end Go.Proofs.Ytdhbjcnbdfidcaa
