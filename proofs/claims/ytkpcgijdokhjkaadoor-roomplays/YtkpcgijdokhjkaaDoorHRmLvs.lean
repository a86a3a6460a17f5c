/- The law's leaves: those of a map with ones at what would be used behind a swing. -/
import Derived.Test.YtkpcgijdokhjkaaDoorHBiFrom
import Derived.Test.YtkpcgijdokhjkaaDoorHDigBytes
import Derived.Handy
import Derived.Test.YtkpcgijdokhjkaaDoorHRmNil
import Derived.Maps.AppendAt

namespace Go.Proofs.YtkpcgijdokhjkaaDoor
open Go Go.RowKit
set_option linter.unusedVariables false
set_option linter.unusedSimpArgs false
set_option maxRecDepth 100000 in
set_option maxHeartbeats 4000000 in
theorem lawBlocks_any (m d d' : Nat) (hm : m ≤ 9223372036854775807) (a a' : Option Addr) (L M : Nat → Nat → Nat) (w : World) (h : IsBlks w a m L) (h' : IsBlks w a' m M) : Calls Tryd.prog 28 #[.slice a m d, .slice a' m d'] w fun e w' => e = .returned (.bool (decide (∀ i, i < m → bkSame (L i) (M i)))) ∧ Below w.heap.size w w' := by
  have HI : Hid (∀ V, Below w.heap.size w V → IsBlks V a m L ∧ IsBlks V a' m M) := fun V hV => ⟨h.below hV, h'.below hV⟩
  clear h h'
  go_enter Tryd.func28, Tryd.ntmps28
  go_wp2_with fail
  go_loopw [13] (fun t wr => Hid (∃ k : Nat, k ≤ m ∧ t = .int .i64 (k : Int) ∧ (∀ i, i < k → bkSame (L i) (M i)) ∧ Below w.heap.size w wr)) (fun t _ => m - (intOf t).toNat)
  case atStart => exact ⟨0, by omega, rfl, fun i hi => by omega, Below.refl _ _⟩
  case round =>
    obtain ⟨k, hk, rfl, hall, hb⟩ := Hid.out hrel
    clear hrel
    by_cases hlt : k < m
    · obtain ⟨b1, o1, rfl, l1, r1⟩ := (HI.out wr hb).1 k hlt
      obtain ⟨b2, o2, rfl, l2, r2⟩ := (HI.out wr hb).2 k hlt
      have R1 : Hid (wr.rangeAt b1 (o1 + k * 256) ((List.range 256).map (iv .u8 (L k)))) := r1
      have R2 : Hid (wr.rangeAt b2 (o2 + k * 256) ((List.range 256).map (iv .u8 (M k)))) := r2
      have k0 : (0 : Int) ≤ (k : Int) := by omega
      have k1 : (k : Int) < (m : Int) := by omega
      have HJ : Hid (k < m ∧ m ≤ 9223372036854775807 ∧ (∀ i, i < k → bkSame (L i) (M i))) := ⟨hlt, hm, hall⟩
      have hq : ∀ w, (Op.equalIn 10000 93 (.agg (va 256 (iv .u8 (L k)))) (.agg (va 256 (iv .u8 (M k))))).run Tryd.prog w = .ok (decide (bkSame (L k) (M k))) w := fun w => eq_bk 93 Tryd.underlying93 (L k) (M k) w
      have HSM : Hid (decide (bkSame (L k) (M k)) = decide (bkSame (L k) (M k))) := rfl
      generalize hsm : decide (bkSame (L k) (M k)) = sm at hq
      have HS : Hid (decide (bkSame (L k) (M k)) = sm) := hsm
      clear r1 r2 hall hsm HSM
      cases sm
      all_goals
        go_wp2_with fail
        refine wp_region_partsI [] [([0, 1, 2, 4, 5, 6], 3, true), ([], 7, false), ([], 8, false)] [] [] (wr.heap.size) (by kernel_rfl) (by kernel_rfl) (fun _ hx => nomatch hx) (partsI_yield ?_)
        simp only [List.cons_append, List.nil_append, List.append_nil, List.filterMap_cons, List.filterMap_nil, List.getElem?_toArray, List.getElem?_cons_zero, List.getElem?_cons_succ]
        have hS : Below (wr.heap.size) wr wr.drew := (Below.refl _ _).drew
        go_wp2_with fail
        refine ⟨rfl, _, .agg (va 256 (iv .u8 (L k))), rfl, yieldsIf_load_mid (by rfl) 93 _ (by rfl) (b1) (o1 + k * 256) (by rfl) ((List.range 256).map (iv .u8 (L k))) _ (fun W hW => range_below R1.out hW l1) Tryd.underlying93 rfl (sizeBk.trans (by simp)), partsI_force ?_⟩
        simp only [Act.put, List.setIfInBounds_toArray, List.set_cons_zero, List.set_cons_succ]
        simp only [List.cons_append, List.nil_append, List.append_nil, List.filterMap_cons, List.filterMap_nil, List.getElem?_toArray, List.getElem?_cons_zero, List.getElem?_cons_succ]
        refine wpList_load_blk (by rfl) 93 _ (by rfl) (b2) (o2 + k * 256) 256 (iv .u8 (M k)) (by rfl) _ (range_below R2.out hS l2) Tryd.underlying93 rfl sizeBk ?_
        simp only [Act.put, List.setIfInBounds_toArray, List.set_cons_zero, List.set_cons_succ]
        go_wp2_with fail
        refine ⟨rfl, hS, partsI_force ?_⟩
        simp only [List.cons_append, List.nil_append, List.append_nil, List.filterMap_cons, List.filterMap_nil, List.getElem?_toArray, List.getElem?_cons_zero, List.getElem?_cons_succ]
        go_wp2_with fail
        refine ⟨rfl, hS, partsI_last ?_⟩
        simp only [List.cons_append, List.nil_append, List.append_nil, List.filterMap_cons, List.filterMap_nil, List.getElem?_toArray, List.getElem?_cons_zero, List.getElem?_cons_succ]
        refine ⟨rfl, ?_⟩
        go_wp2_with fail
      · go_ret
        refine ⟨?_, hb.trans (hS.mono hb.size)⟩
        rw [decide_eq_false (fun hx => (of_decide_eq_false HS.out) (hx k HJ.out.1))]
        rfl
      · go_roundw
        case rel =>
          refine ⟨k + 1, HJ.out.1, by first | rfl | go_num | simp, fun i hi => ?_, hb.trans (hS.mono hb.size)⟩
          by_cases e : i = k
          · rw [e]; exact of_decide_eq_true HS.out
          · exact HJ.out.2.2 i (by omega)
        case measure => simp [intOf]; have := HJ.out; omega
    · obtain rfl : k = m := by omega
      have j1 : ¬ ((k : Int) < (k : Int)) := by omega
      have HA : Hid (∀ i, i < k → bkSame (L i) (M i)) := hall
      clear hall
      go_wp2_with fail
      go_ret
      exact ⟨by rw [decide_eq_true HA.out]; rfl, hb⟩
section
variable {w : World} {P : Nat → Prop} {r n : Nat} {F G : Nat → Bool}
theorem rleaves_any (h : RoomIs w P r n F G) : Calls Tryd.prog 17 #[.pointer (some ⟨r, 0, none⟩)] w fun e w' => ∃ v X, e = .returned v ∧ (∀ i, X i < 18446744073709551616) ∧ (∀ p, bitF X p = G p) ∧ w'.ownsRow w.heap.size 93 256 v (lvN n) (byL (lvsF X) (lvN n * 256)) ∧ Below w.heap.size w w' := by
  obtain ⟨gu, bu, cu, gn, bn, cn, U, X, hR, hF, hG⟩ := h
  have HM := rmaps_any hR
  have HL : Hid (∀ m, Calls Tryd.prog 47 #[.pointer (some ⟨gn, 0, none⟩)] (w.drewN m) fun e w' => ∃ v, e = .returned v ∧ w'.ownsRow w.heap.size 93 256 v (lvN n) (byL (lvsF X) (lvN n * 256)) ∧ Below w.heap.size w w') := fun m => by
    refine (leavesM_any _ (hR.x.dN m)).mono ?_
    rintro e w' ⟨v, rfl, h1, h2⟩
    exact ⟨v, rfl, h1, ⟨h2.os, h2.tape, h2.output, h2.size, h2.block⟩⟩
  have hlt := hR.x.lt
  clear hR
  go_enter Tryd.func17, Tryd.ntmps17
  go_wp2_with fail
  refine HM.mono ?_
  rintro e w1 ⟨rfl, m, rfl⟩
  go_wp2_with fail
  refine (HL.out m).mono ?_
  rintro e w2 ⟨v, rfl, h1, h2⟩
  have HE : Hid (_ ∧ _) := ⟨h1, h2⟩
  clear h1 h2
  go_wp2_with fail
  go_ret
  exact ⟨v, X, rfl, hlt, hG, HE.out.1, HE.out.2⟩
/-- the leaves are right -/
def GoodW (n : Nat) (L : Nat → Nat → Nat) (W : Nat → Nat) : Prop := ∀ i, i < lvN n → bkSame (lfF W i 16) (L i)
set_option maxHeartbeats 4000000 in
theorem rload_ok (h1 : 16 ≤ n) (h2 : n ≤ 8192) (a : Option Addr) (cc : Nat) (L : Nat → Nat → Nat) (hL : ∀ i j, L i j < 256) (w : World) (hI : IsBlks w a (lvN n) L) : Calls Tryd.prog 24 #[.int .i64 (n : Int), .slice a (lvN n) cc] w fun e w' => ∃ W, (∀ i, W i < 18446744073709551616) ∧ (∀ p, bitF W p = (decide (p < n) && bitL L p)) ∧ ((GoodW n L W ∧ bitF W 0 = false ∧ ∃ r, e = .returned (.tuple #[.pointer (some ⟨r, 0, none⟩), .int .i64 0]) ∧ RoomIs w' (fun k => w.heap.size ≤ k) r n (bitF W) (bitF W)) ∨ (¬ (GoodW n L W ∧ bitF W 0 = false) ∧ e = .returned (.tuple #[.pointer none, .int .i64 122]))) ∧ Below w.heap.size w w' := by
  have HY := rmaybe_yes n h1 h2 w
  have HL := from_ok (n := n) (by omega) h2 a cc L hL w hI
  clear hI
  go_enter Tryd.func24, Tryd.ntmps24
  go_wp2_with fail
  refine HY.mono ?_
  rintro e w1 ⟨rfl, hw1⟩
  subst hw1
  go_wp2_with fail
  refine HL.mono ?_
  rintro e w2 ⟨g, b, c, W, hM, hbits, he, hb⟩
  have HF : Hid ((∀ i, W i < 18446744073709551616) ∧ (∀ p, bitF W p = (decide (p < n) && bitL L p))) := ⟨hM.lt, hbits⟩
  by_cases hgd : GoodW n L W
  · rw [if_pos (show ∀ i, i < lvN n → bkSame (lfF W i 16) (L i) from hgd)] at he
    subst he
    have HH := has_yes w2 hM 0 (by omega)
    have HG : Hid (GoodW n L W) := hgd
    have HSt : Hid (∀ m, bitF W 0 = false → Calls Tryd.prog 52 #[.pointer (some ⟨g, 0, none⟩)] (w2.drewN m) fun e w' => ∃ r, e = .returned (.pointer (some ⟨r, 0, none⟩)) ∧ RoomIs w' (fun k => w1.heap.size ≤ k) r n (bitF W) (bitF W) ∧ Below w1.heap.size w1 w') := fun m hz => by
      refine (rstanding_any (P := fun k => w1.heap.size ≤ k) (hM.dN m) h1 hz hM.gB hM.blt.1 (fun k hk => Nat.le_trans hb.size hk)).mono ?_
      rintro e w' ⟨r, rfl, h5, h6⟩
      have h7 : Below w2.heap.size w2 w' := ⟨h6.os, h6.tape, h6.output, h6.size, h6.block⟩
      exact ⟨r, rfl, h5, hb.trans (h7.mono hb.size)⟩
    clear hM hbits hgd
    cases hz : bitF W 0 with
    | false =>
      rw [hz] at HH
      have HZ : Hid (bitF W 0 = false) := hz
      clear hz
      go_wp2_with fail
      refine HH.mono ?_
      rintro e w3 ⟨rfl, m, rfl⟩
      have HS2 := HSt.out m HZ.out
      clear HSt HH HL HY
      go_wp2_with fail
      refine HS2.mono ?_
      rintro e w4 ⟨r, rfl, hR, hb4⟩
      have HE : Hid (_ ∧ _) := ⟨hR, hb4⟩
      clear hR hb4
      go_wp2_with fail
      go_ret2
      exact ⟨W, HF.out.1, HF.out.2, .inl ⟨HG.out, HZ.out, r, rfl, HE.out.1⟩, HE.out.2⟩
    | true =>
      rw [hz] at HH
      have HZ : Hid (bitF W 0 = true) := hz
      clear hz HSt
      go_wp2_with fail
      refine HH.mono ?_
      rintro e w3 ⟨rfl, m, rfl⟩
      go_wp2_with fail
      go_ret2
      exact ⟨W, HF.out.1, HF.out.2, .inr ⟨(fun q => by have q2 := q.2; rw [HZ.out] at q2; cases q2), rfl⟩, below_dN hb m⟩
  · rw [if_neg (show ¬ ∀ i, i < lvN n → bkSame (lfF W i 16) (L i) from hgd)] at he
    subst he
    have HG : Hid (¬ GoodW n L W) := hgd
    clear hgd hM hbits
    go_wp2_with fail
    go_ret2
    exact ⟨W, HF.out.1, HF.out.2, .inr ⟨fun q => HG.out q.1, rfl⟩, hb⟩
end
end Go.Proofs.YtkpcgijdokhjkaaDoor

namespace Go.Proofs.YtkpcgijdokhjkaaDoor
open Go Go.RowKit
set_option linter.unusedVariables false
set_option linter.unusedSimpArgs false
section
variable {w w' : World} {P Q : Nat → Prop} {r n : Nat} {F G : Nat → Bool}
/-- a room's blocks, told by another word -/
theorem RoomIs.reown (h : RoomIs w P r n F G) (hQ : ∀ k, k < w.heap.size → P k → Q k) : RoomIs w Q r n F G := by
  obtain ⟨gu, bu, cu, gn, bn, cn, U, X, hR, hF, hG⟩ := h
  exact ⟨gu, bu, cu, gn, bn, cn, U, X, ⟨hR.cells, hR.u, hR.x, ⟨hQ _ hR.cells.lt hR.own.1, hQ _ hR.u.glt hR.own.2.1, hQ _ hR.u.blt.2 hR.own.2.2.1, hQ _ hR.x.glt hR.own.2.2.2.1, hQ _ hR.x.blt.2 hR.own.2.2.2.2⟩, hR.ne, hR.z, hR.n16⟩, hF, hG⟩
/-- what turns another room's blocks alone leaves this one -/
theorem RoomIs.apart (h : RoomIs w P r n F G) (ht : Touch Q w w') (hd : ∀ k, P k → ¬ Q k) : RoomIs w' P r n F G := by
  obtain ⟨gu, bu, cu, gn, bn, cn, U, X, hR, hF, hG⟩ := h
  exact ⟨gu, bu, cu, gn, bn, cn, U, X, hR.keep (ht.block _ hR.cells.lt (hd _ hR.own.1)) (ht.block _ hR.u.glt (hd _ hR.own.2.1)) (ht.block _ hR.u.blt.2 (hd _ hR.own.2.2.1)) (ht.block _ hR.x.glt (hd _ hR.own.2.2.2.1)) (ht.block _ hR.x.blt.2 (hd _ hR.own.2.2.2.2)), hF, hG⟩
theorem RoomIs.facts (h : RoomIs w P r n F G) : 16 ≤ n ∧ n ≤ 8192 ∧ F 0 = false ∧ G 0 = false ∧ (∀ p, n ≤ p → F p = false) ∧ (∀ p, n ≤ p → G p = false) := by
  obtain ⟨gu, bu, cu, gn, bn, cn, U, X, hR, hF, hG⟩ := h
  exact ⟨hR.n16, hR.x.n2, by rw [← hF]; exact hR.z.1, by rw [← hG]; exact hR.z.2, fun p hp => by rw [← hF]; exact hR.u.tail p hp, fun p hp => by rw [← hG]; exact hR.x.tail p hp⟩
end
end Go.Proofs.YtkpcgijdokhjkaaDoor

namespace Go.Proofs.YtkpcgijdokhjkaaDoor
open Go Go.RowKit
set_option linter.unusedVariables false
set_option linter.unusedSimpArgs false
/-- block m is such a map, and all its keys are told by S -/
def UM (w : World) (m : Nat) (S : Nat → Prop) : Prop := ∃ es clock, w.heap[m]? = some (.map es clock) ∧ ∀ x ∈ es.toList, ∃ b : Nat, x.key = .int .u32 (b : Int) ∧ S b
theorem UM.lt {w : World} {m : Nat} {S : Nat → Prop} (h : UM w m S) : m < w.heap.size := by
  obtain ⟨es, cl, hg, _⟩ := h
  exact (Array.getElem?_eq_some_iff.1 hg).1
theorem UM.keep {w w' : World} {m : Nat} {S : Nat → Prop} (h : UM w m S) (hb : w'.heap[m]? = w.heap[m]?) : UM w' m S := by
  obtain ⟨es, cl, hg, h2⟩ := h
  exact ⟨es, cl, hb.trans hg, h2⟩
theorem UM.mono {w : World} {m : Nat} {S T : Nat → Prop} (h : UM w m S) (hT : ∀ b, S b → T b) : UM w m T := by
  obtain ⟨es, cl, hg, h2⟩ := h
  exact ⟨es, cl, hg, fun x hx => by obtain ⟨b, e, hb⟩ := h2 x hx; exact ⟨b, e, hT b hb⟩⟩
theorem UM.new {w : World} {m k : Nat} (h : w.heap[m]? = some (.map #[] k)) (S : Nat → Prop) : UM w m S := ⟨#[], k, h, fun x hx => by simp at hx⟩
theorem findNow_absent (a : Nat) : ∀ (es : List MapEntry) (i : Nat), (∀ x ∈ es, ∃ b : Nat, x.key = .int .u32 (b : Int) ∧ b ≠ a) → Instr.findNow (.int .u32) (.int .u32 (a : Int)) es i = some none
  | [], i, _ => by simp [Instr.findNow]
  | e :: es, i, h => by
    obtain ⟨b, e1, hb⟩ := h e (by simp)
    have hs : Instr.sameNow (.int .u32) (.int .u32 (a : Int)) e.key = some false := by
      rw [e1]
      have : ((a : Int) == (b : Int)) = false := by simpa using fun q => hb (by omega)
      simp [Instr.sameNow, this]
    have ih := findNow_absent a es (i + 1) fun x hx => h x (by simp [hx])
    simp [Instr.findNow, hs, ih]
section
variable {P : Program} {mt kt et : TypeId}
theorem chk_u32 (hk : P.underlying kt = some (.int .u32)) (e : Bool) (x : Int) (w : World) : (Instr.checkKey e 10000 kt (.int .u32 x)).run P w = .ok () w := by
  rw [show (10000 : Nat) = 9999 + 1 from rfl, Instr.checkKey]
  simp [run_underlying hk]
theorem UM.put (hm : P.underlying mt = some (.map kt et)) (hk : P.underlying kt = some (.int .u32)) {w : World} {m : Nat} {S : Nat → Prop} (h : UM w m S) (a : Nat) (ha : ¬ S a) : ∃ w', (Instr.mapUpdate mt (.map (some m)) (.int .u32 (a : Int)) (.bool true)).run P w = .ok () w' ∧ UM w' m (fun b => b = a ∨ S b) ∧ Only m w w' := by
  obtain ⟨es, cl, hg, h2⟩ := h
  have hgo : (getObj m).run P w = .ok (.map es cl) w := by simp [getObj, Sem.run, hg]
  have hso : ∀ o, (setObj m o).run P w = .ok () { w with heap := w.heap.setIfInBounds m o } := fun o => by simp [setObj, Sem.run, hg]
  have hr : m < w.heap.size := (Array.getElem?_eq_some_iff.1 hg).1
  have hq : (Instr.findKey kt (.int .u32 (a : Int)) es.toList).run P w = .ok none w := by
    have := findNow_absent a es.toList 0 fun x hx => by obtain ⟨b, e, hb⟩ := h2 x hx; exact ⟨b, e, fun q => ha (q ▸ hb)⟩
    simp [Instr.findKey, run_underlying hk, this]
  refine ⟨{ w with heap := w.heap.setIfInBounds m (.map (es.push { key := .int .u32 (a : Int), val := .bool true, born := cl }) (cl + 1)) }, ?_, ⟨es.push { key := .int .u32 (a : Int), val := .bool true, born := cl }, cl + 1, by simp [hr], fun x hx => ?_⟩, ⟨rfl, rfl, rfl, by simp, fun b hb hn => by simp [Array.getElem?_setIfInBounds, Ne.symm hn]⟩⟩
  · simp [Instr.mapUpdate, run_underlying hm, hgo, chk_u32 hk, hq, hso]
  · have hx' : x ∈ es.toList ++ [{ key := .int .u32 (a : Int), val := .bool true, born := cl }] := by simpa using hx
    rcases List.mem_append.1 hx' with q | q
    · obtain ⟨b, e, hb⟩ := h2 x q
      exact ⟨b, e, .inr hb⟩
    · rw [List.mem_singleton.1 q]
      exact ⟨a, rfl, .inl rfl⟩
end
end Go.Proofs.YtkpcgijdokhjkaaDoor

namespace Go.Proofs.YtkpcgijdokhjkaaDoor
open Go Go.RowKit
set_option linter.unusedVariables false
set_option linter.unusedSimpArgs false
/-- two rooms beside each other: one that turns (its blocks: Pr), and its first copy (Pf) -/
structure ST (w V : World) (Pr Pf : Nat → Prop) (r r' n : Nat) (F G : Nat → Bool) : Prop where
  a : RoomIs V Pr r n F G
  b : RoomIs V Pf r' n F F
  c : Below w.heap.size w V
section
variable {w V V' : World} {Pr Pf : Nat → Prop} {r r' n : Nat} {F G G' : Nat → Bool}
theorem ST.below (h : ST w V Pr Pf r r' n F G) (hb : Below V.heap.size V V') : ST w V' Pr Pf r r' n F G := ⟨h.a.below hb, h.b.below hb, h.c.trans (hb.mono h.c.size)⟩
theorem ST.turn (h : ST w V Pr Pf r r' n F G) (ht : Touch Pr V V') (ha : RoomIs V' Pr r n F G') (hd : ∀ k, Pf k → ¬ Pr k) (hw : ∀ k, k < w.heap.size → ¬ Pr k) : ST w V' Pr Pf r r' n F G' := ⟨ha, h.b.apart ht hd, h.c.trans (ht.below h.c.size hw)⟩
/-- what was made between is the room's no more -/
theorem ST.gap (h : ST w V Pr Pf r r' n F G) (hb : Below V.heap.size V V') : ST w V' (fun k => (k < V.heap.size ∧ Pr k) ∨ V'.heap.size ≤ k) Pf r r' n F G := ⟨(h.a.reown fun k hk hp => .inl ⟨hk, hp⟩).below hb, h.b.below hb, h.c.trans (hb.mono h.c.size)⟩
theorem own_u32 {B : Nat} {v : Value} {xs : List Nat} (h : V.ownsRow B 22 1 v xs.length (u32L xs)) : ∃ a cap, v = .slice a xs.length cap ∧ IsU32s V a xs.length fun i => xs.getD i 0 % 4294967296 := by
  obtain ⟨a, cap, rfl⟩ := kown_slice h
  refine ⟨a, cap, rfl, fun i hi => ⟨Nat.mod_lt _ (by decide), ?_⟩⟩
  obtain ⟨g, cap', hv, hg1, hg2⟩ := kown_form h (by omega)
  injection hv with hv1 hv2 hv3
  subst hv1
  refine ⟨g, 0, rfl, hg2, ?_⟩
  subst hv3
  rw [Nat.zero_add, h.cellAt i (by omega)]
  unfold u32L
  rw [List.getElem?_map, List.getElem?_eq_getElem hi]
  show some (Value.int .u32 (((xs[i] : Nat) : Int) % 4294967296)) = some (Value.int .u32 ((xs.getD i 0 % 4294967296 : Nat) : Int))
  rw [List.getD_eq_getElem?_getD, List.getElem?_eq_getElem hi]
  rfl
theorem ones_len (F : Nat → Bool) : ∀ n, (onesL F n).length = cntF F n
  | 0 => rfl
  | n + 1 => by
    rw [onesL_succ, List.length_append, ones_len F n]
    show _ = cntF F n + if F n = true then 1 else 0
    by_cases h : F n = true
    · simp [h]
    · simp [h]
theorem ones_eq {F G : Nat → Bool} {n : Nat} (h : ∀ p, p < n → F p = G p) : onesL F n = onesL G n := by
  unfold onesL
  exact List.filter_congr fun x hx => h x (List.mem_range.1 hx)
end
end Go.Proofs.YtkpcgijdokhjkaaDoor

namespace Go.Proofs.YtkpcgijdokhjkaaDoor
open Go Go.RowKit
set_option linter.unusedVariables false
set_option linter.unusedSimpArgs false
section
variable {w : World} {B k n c : Nat} {f : Nat → Int}
theorem rrstate_any (h : SA w B k n c f) (p : Nat) (hp : p < 4294967296) : Calls Tryd.prog 60 #[.slice (some ⟨k, 0, none⟩) n c, .int .u32 (p : Int)] w fun e w' => e = .returned (.int .i64 (if p < n then f p else 0)) ∧ w' = w := by
  have hn := h.n2
  by_cases hlt : p < n
  · rw [if_pos hlt]
    have cs := h.at hlt
    have q1 : ¬ ((n : Int) ≤ (p : Int)) := by omega
    have q2 : (p : Int) < (n : Int) := by omega
    clear h
    generalize f p = z at *
    go_enter Tryd.func60, Tryd.ntmps60
    go_wp2_with fail
    go_ret
    exact ⟨rfl, rfl⟩
  · rw [if_neg hlt]
    have q1 : (n : Int) ≤ (p : Int) := by omega
    clear h
    go_enter Tryd.func60, Tryd.ntmps60
    go_wp2_with fail
    go_ret
    exact ⟨rfl, rfl⟩
set_option maxRecDepth 100000 in
set_option maxHeartbeats 4000000 in
theorem rrlist_any (h : SA w B k n c f) (s : Int) : Calls Tryd.prog 37 #[.slice (some ⟨k, 0, none⟩) n c, .int .i64 s] w fun e w' => ∃ v, e = .returned v ∧ w'.ownsRow w.heap.size 22 1 v (onesL (fun p => decide (f p = s)) n).length (u32L (onesL (fun p => decide (f p = s)) n)) ∧ Below w.heap.size w w' := by
  obtain ⟨i0, hi, hz0, hz1, hz2⟩ := info_parts infoU32
  have hn := h.n2
  have HS : Hid (∀ V, Below w.heap.size w V → SA V B k n c f) := fun V hV => h.below hV
  have hbN := below_new1 w (.cells #[] 22)
  have HO0 : Hid ((w.alloc (.cells #[] 22)).ownsRow w.heap.size 22 1 (.slice (some ⟨w.heap.size, 0, none⟩) 0 0) 0 []) := kown_empty (Blk.new w 22 #[]) (Nat.le_refl _)
  clear h
  go_enter Tryd.func37, Tryd.ntmps37
  go_wp2_with fail
  generalize w.alloc (.cells #[] 22) = w1 at *
  go_loopw [5, 10] (fun v t wr => Hid (∃ j : Nat, j ≤ n ∧ t = .int .i64 (j : Int) ∧ wr.ownsRow w.heap.size 22 1 v (onesL (fun p => decide (f p = s)) j).length (u32L (onesL (fun p => decide (f p = s)) j)) ∧ Below w.heap.size w wr)) (fun _ t _ => n - (intOf t).toNat)
  case atStart => exact ⟨0, by omega, rfl, HO0.out, hbN⟩
  case round =>
    obtain ⟨j, hj, rfl, hown, hb⟩ := Hid.out hrel
    clear hrel HO0 hbN
    have hln : (onesL (fun p => decide (f p = s)) j).length ≤ j := by
      unfold onesL
      exact Nat.le_trans (List.length_filter_le _ _) (by rw [List.length_range]; exact Nat.le_refl _)
    by_cases hlt : j < n
    · have cs := (HS.out wr hb).at hlt
      have j0 : (0 : Int) ≤ (j : Int) := by omega
      have j1 : (j : Int) < (n : Int) := by omega
      have hcv : ((j : Int) % 4294967296) = (j : Int) := by omega
      have HJ : Hid (j < n ∧ n ≤ 8192) := ⟨hlt, hn⟩
      have hsc := onesL_succ (fun p => decide (f p = s)) j
      by_cases he : f j = s
      · have hsc2 : u32L (onesL (fun p => decide (f p = s)) (j + 1)) = u32L (onesL (fun p => decide (f p = s)) j) ++ [Value.int .u32 (j : Int)] := by
          rw [hsc, he]
          simp [u32L, hcv]
        have hle2 : (onesL (fun p => decide (f p = s)) (j + 1)).length = (onesL (fun p => decide (f p = s)) j).length + 1 := by
          rw [hsc, he]
          simp
        have HSC : Hid (_ ∧ _) := ⟨hsc2, hle2⟩
        rw [he] at cs
        have hsz := hb.size
        have HOWN : Hid ((wr.alloc (.cells #[.int .u32 (j : Int)] 22)).ownsRow _ _ _ _ _ _) := hown.alloc _
        have HV2 := (hown.alloc (.cells #[.int .u32 (j : Int)] 22)).lt
        have hbA : Below w.heap.size w (wr.alloc (.cells #[.int .u32 (j : Int)] 22)) := hb.alloc hsz _
        have hml : (onesL (fun p => decide (f p = s)) j).length + 1 ≤ maxLen := Nat.le_trans (show _ ≤ 8193 by omega) (by decide)
        obtain ⟨av, capv, rfl⟩ := kown_slice hown
        clear hown hb HS hsc hsc2 hle2 he
        generalize (onesL (fun p => decide (f p = s)) j).length = ll at *
        go_wp2_with (first
          | (at_builtin; refine wpList_append_own _ rfl _ _ 31 rfl w.heap.size 22 i0 (.int .u32 0) 1 4 Tryd.underlying31 hi hz0 hz1 hz2 rfl (by decide) _ _ _ rfl HOWN.out ⟨wr.heap.size, 0, none⟩ 1 1 [.int .u32 (j : Int)] rfl rfl (cell_one_new _ _ _) (by simp [Value.oneCell']) hml (by omega) (by simp; omega) ?_)
          | go_in)
        intro v' w2 hown' hgrow _
        have hb2 : Below w.heap.size w w2 := hbA.grown hgrow (by simp; omega) (fun q hq => (HV2 q hq).1)
        rw [← HSC.out.1, ← HSC.out.2] at hown'
        have HE : Hid (_ ∧ _) := ⟨hown', hb2⟩
        clear HOWN HV2 hgrow hbA hown' hb2
        go_wp2_with fail
        go_roundw
        case rel => exact ⟨j + 1, HJ.out.1, by first | rfl | go_num | simp, HE.out.1, HE.out.2⟩
        case measure => simp [intOf]; have := HJ.out; omega
      · have hsc2 : onesL (fun p => decide (f p = s)) (j + 1) = onesL (fun p => decide (f p = s)) j := by
          rw [hsc]
          simp [he]
        rw [← hsc2] at hown
        have HE : Hid (_ ∧ _) := ⟨hown, hb⟩
        clear hown hb HS hsc hsc2
        generalize f j = z at *
        go_wp2_with fail
        go_roundw
        case rel => exact ⟨j + 1, HJ.out.1, by first | rfl | go_num | simp, HE.out.1, HE.out.2⟩
        case measure => simp [intOf]; have := HJ.out; omega
    · obtain rfl : j = n := by omega
      have j1 : ¬ ((j : Int) < (j : Int)) := by omega
      have HE : Hid (_ ∧ _) := ⟨hown, hb⟩
      clear hown hb HS
      go_wp2_with fail
      go_ret
      exact ⟨_, rfl, HE.out.1, HE.out.2⟩
end
end Go.Proofs.YtkpcgijdokhjkaaDoor

namespace Go.Proofs.YtkpcgijdokhjkaaDoor
open Go Go.RowKit
set_option linter.unusedVariables false
set_option linter.unusedSimpArgs false
theorem stL_one (f : Nat → Int) (n : Nat) : ∀ u ∈ stL f n, u.oneCell' = true := fun u hu => by
  obtain ⟨i, _, rfl⟩ := List.mem_map.1 hu
  rfl
section
variable {w : World} {B k n c : Nat} {f : Nat → Int}
theorem SA.news (h : SA w B k n c f) : ∀ j u, (stL f n)[j]? = some u → w.cell? ((⟨k, 0, none⟩ : Addr).add j) = some u := fun j u hu => by
  have hj : j < n := by
    have := (List.getElem?_eq_some_iff.1 hu).1
    rwa [stL_len] at this
  rw [stL_at _ _ _ hj] at hu
  rw [Addr.add_mid, Nat.zero_add, h.at hj]
  exact hu
set_option maxRecDepth 100000 in
set_option maxHeartbeats 4000000 in
theorem rrtake_any (h1 : 1 ≤ n) (h : SA w B k n c f) : Calls Tryd.prog 32 #[.slice (some ⟨k, 0, none⟩) n c] w fun e w' =>
    (((∀ p, p < n → f p ≠ 1) ∧ e = .returned (.tuple #[.slice (some ⟨k, 0, none⟩) n c, .int .u32 0, .int .i64 3])) ∨
    (∃ p k' c', p < n ∧ f p = 1 ∧ (∀ q, q < p → f q ≠ 1) ∧ e = .returned (.tuple #[.slice (some ⟨k', 0, none⟩) n c', .int .u32 (p : Int), .int .i64 0]) ∧ SA w' w.heap.size k' n c' (fun q => if q = p then 3 else f q))) ∧ Below w.heap.size w w' := by
  obtain ⟨i0, hi, hz0, hz1, hz2⟩ := info_parts infoInt
  have hn := h.n2
  have HS : Hid (∀ V, Below w.heap.size w V → SA V B k n c f) := fun V hV => h.below hV
  clear h
  go_enter Tryd.func32, Tryd.ntmps32
  go_wp2_with fail
  go_loopw [9] (fun t wr => Hid (∃ j : Nat, j ≤ n ∧ t = .int .i64 (j : Int) ∧ (∀ q, q < j → f q ≠ 1) ∧ Below w.heap.size w wr)) (fun t _ => n - (intOf t).toNat)
  case atStart => exact ⟨0, by omega, rfl, fun q hq => by omega, Below.refl _ _⟩
  case round =>
    obtain ⟨j, hj, rfl, hall, hb⟩ := Hid.out hrel
    clear hrel
    by_cases hlt : j < n
    · have cs := (HS.out wr hb).at hlt
      have j0 : (0 : Int) ≤ (j : Int) := by omega
      have j1 : (j : Int) < (n : Int) := by omega
      have HJ : Hid (j < n ∧ n ≤ 8192 ∧ (∀ q, q < j → f q ≠ 1)) := ⟨hlt, hn, hall⟩
      by_cases he : f j = 1
      · have HE1 : Hid (f j = 1) := he
        rw [he] at cs
        have hsz := hb.size
        have hbA : Below w.heap.size w (wr.alloc (.cells #[] 3)) := hb.alloc hsz _
        have HOWN : Hid ((wr.alloc (.cells #[] 3)).ownsRow w.heap.size 3 1 (.slice (some ⟨wr.heap.size, 0, none⟩) 0 0) 0 []) := kown_empty (Blk.new wr 3 #[]) hsz
        have HV2 := (HOWN.out).lt
        have HNEW : Hid (∀ j u, (stL f n)[j]? = some u → (wr.alloc (.cells #[] 3)).cell? ((⟨k, 0, none⟩ : Addr).add j) = some u) := (HS.out _ hbA).news
        have HLEN : Hid ((stL f n).length = n * 1) := by show _ = _; rw [stL_len, Nat.mul_one]
        have hml : 0 + n ≤ maxLen := Nat.le_trans (show _ ≤ 8192 by omega) (by decide)
        clear hall he hb HS
        go_wp2_with (first
          | (at_builtin; refine bi_append_at rfl _ _ 60 rfl w.heap.size 3 i0 (.int .i64 0) 1 8 Tryd.underlying60 hi hz0 hz1 hz2 rfl (by decide) _ 0 [] rfl HOWN.out ⟨k, 0, none⟩ n c (stL f n) rfl HLEN.out HNEW.out (stL_one f n) hml (by omega) (by simp; omega) ?_)
          | go_in)
        intro v' w2 hown' hgrow _
        have hb2 : Below w.heap.size w w2 := hbA.grown hgrow (by simp; omega) (fun q hq => (HV2 q hq).1)
        try rw [Nat.zero_add, List.nil_append] at hown'
        obtain ⟨g3, cap3, rfl, hg3, hg3'⟩ := kown_form hown' (by omega)
        have hS2 : SA w2 w.heap.size g3 n cap3 f := ⟨hn, hown'⟩
        have c2 := hS2.at HJ.out.1
        have f2 := hS2.frozen j
        have hcv : ((j : Int) % 4294967296) = (j : Int) := by omega
        have HE : Hid (SA (w2.setCell ⟨g3, j, none⟩ (.int .i64 3)) w.heap.size g3 n cap3 (fun q => if q = j then 3 else f q) ∧ Below w.heap.size w (w2.setCell ⟨g3, j, none⟩ (.int .i64 3))) := ⟨hS2.put j 3, hb2.setCell (p := ⟨g3, j, none⟩) hS2.lt.1 _⟩
        clear HOWN HV2 HNEW HLEN hgrow hbA hown' hb2 hS2
        go_wp2_with fail
        go_ret3
        exact ⟨.inr ⟨j, g3, cap3, HJ.out.1, HE1.out, HJ.out.2.2, rfl, HE.out.1⟩, HE.out.2⟩
      · have HE1 : Hid (f j ≠ 1) := he
        have HB : Hid (Below w.heap.size w wr) := hb
        have heb : (f j == 1) = false := by simp [he]
        clear hall hb HS
        generalize hfj : f j = z at *
        go_wp2_with fail
        go_roundw
        case rel =>
          refine ⟨j + 1, HJ.out.1, by first | rfl | go_num | simp, fun q hq => ?_, HB.out⟩
          by_cases e : q = j
          · rw [e, hfj]; exact HE1.out
          · exact HJ.out.2.2 q (by omega)
        case measure => simp [intOf]; have := HJ.out; omega
    · obtain rfl : j = n := by omega
      have j1 : ¬ ((j : Int) < (j : Int)) := by omega
      have HE : Hid (_ ∧ _) := ⟨hall, hb⟩
      clear hall hb HS
      go_wp2_with fail
      go_ret3
      exact ⟨.inl ⟨HE.out.1, rfl⟩, HE.out.2⟩
end
end Go.Proofs.YtkpcgijdokhjkaaDoor

namespace Go.Proofs.YtkpcgijdokhjkaaDoor
open Go Go.RowKit
set_option linter.unusedVariables false
set_option linter.unusedSimpArgs false
section
variable {w : World} {B k n c : Nat} {f : Nat → Int}
theorem rrlet_bad (h : SA w B k n c f) (p : Nat) (hp : p < 4294967296) (hbad : ¬ (p < n ∧ (f p = 2 ∨ f p = 3))) : Calls Tryd.prog 33 #[.slice (some ⟨k, 0, none⟩) n c, .int .u32 (p : Int)] w fun e w' => e = .returned (.tuple #[.slice (some ⟨k, 0, none⟩) n c, .int .i64 121]) ∧ w' = w := by
  have hn := h.n2
  by_cases hlt : p < n
  · have cs := h.at hlt
    have q1 : ¬ ((n : Int) ≤ (p : Int)) := by omega
    have q2 : (p : Int) < (n : Int) := by omega
    have z2 : ¬ f p = 2 := fun e => hbad ⟨hlt, .inl e⟩
    have z3 : ¬ f p = 3 := fun e => hbad ⟨hlt, .inr e⟩
    clear h hbad
    generalize f p = z at *
    have z2n : (z != 2) = true := by simp [z2]
    have z3n : (z != 3) = true := by simp [z3]
    go_enter Tryd.func33, Tryd.ntmps33
    go_wp2_with fail
    go_ret2
    exact ⟨rfl, rfl⟩
  · have q1 : (n : Int) ≤ (p : Int) := by omega
    clear h hbad
    go_enter Tryd.func33, Tryd.ntmps33
    go_wp2_with fail
    go_ret2
    exact ⟨rfl, rfl⟩
set_option maxRecDepth 100000 in
set_option maxHeartbeats 4000000 in
theorem rrlet_ok (h1 : 1 ≤ n) (h : SA w B k n c f) (p : Nat) (hp : p < 4294967296) (hlt : p < n) (hok : f p = 2 ∨ f p = 3) : Calls Tryd.prog 33 #[.slice (some ⟨k, 0, none⟩) n c, .int .u32 (p : Int)] w fun e w' => ∃ k' c', e = .returned (.tuple #[.slice (some ⟨k', 0, none⟩) n c', .int .i64 0]) ∧ SA w' w.heap.size k' n c' (fun q => if q = p then (if f p = 2 then 4 else 1) else f q) ∧ Below w.heap.size w w' := by
  obtain ⟨i0, hi, hz0, hz1, hz2⟩ := info_parts infoInt
  have hn := h.n2
  have cs := h.at hlt
  have q1 : ¬ ((n : Int) ≤ (p : Int)) := by omega
  have q2 : (p : Int) < (n : Int) := by omega
  have hbA : Below w.heap.size w (w.alloc (.cells #[] 3)) := below_new1 _ _
  have HOWN : Hid ((w.alloc (.cells #[] 3)).ownsRow w.heap.size 3 1 (.slice (some ⟨w.heap.size, 0, none⟩) 0 0) 0 []) := kown_empty (Blk.new w 3 #[]) (Nat.le_refl _)
  have HV2 := (HOWN.out).lt
  have HNEW : Hid (∀ j u, (stL f n)[j]? = some u → (w.alloc (.cells #[] 3)).cell? ((⟨k, 0, none⟩ : Addr).add j) = some u) := (h.below hbA).news
  have HLEN : Hid ((stL f n).length = n * 1) := by show _ = _; rw [stL_len, Nat.mul_one]
  have hml : 0 + n ≤ maxLen := Nat.le_trans (show _ ≤ 8192 by omega) (by decide)
  have HC : Hid (∀ V, Below w.heap.size w V → V.cell? ⟨k, p, none⟩ = some (.int .i64 (f p))) := fun V hV => (h.below hV).at hlt
  have HPN : Hid (p < n) := hlt
  clear h
  rcases hok with he | he
  all_goals
    rw [he] at cs
    have HE1 : Hid (f p = _) := he
    go_enter Tryd.func33, Tryd.ntmps33
    go_wp2_with (first
      | (at_builtin; refine bi_append_at rfl _ _ 60 rfl w.heap.size 3 i0 (.int .i64 0) 1 8 Tryd.underlying60 hi hz0 hz1 hz2 rfl (by decide) _ 0 [] rfl HOWN.out ⟨k, 0, none⟩ n c (stL f n) rfl HLEN.out HNEW.out (stL_one f n) hml (by omega) (by simp) ?_)
      | go_in)
    intro v' w2 hown' hgrow _
    have hb2 : Below w.heap.size w w2 := hbA.grown hgrow (by simp) (fun q hq => (HV2 q hq).1)
    try rw [Nat.zero_add, List.nil_append] at hown'
    obtain ⟨g3, cap3, rfl, hg3, hg3'⟩ := kown_form hown' (by omega)
    have hS2 : SA w2 w.heap.size g3 n cap3 f := ⟨hn, hown'⟩
    have c2 := hS2.at HPN.out
    have f2 := hS2.frozen p
    have cs2 := HC.out w2 hb2
    rw [he] at cs2
    have HE : Hid (∀ x : Int, SA (w2.setCell ⟨g3, p, none⟩ (.int .i64 x)) w.heap.size g3 n cap3 (fun q => if q = p then x else f q) ∧ Below w.heap.size w (w2.setCell ⟨g3, p, none⟩ (.int .i64 x))) := fun x => ⟨hS2.put p x, hb2.setCell (p := ⟨g3, p, none⟩) hS2.lt.1 _⟩
    clear HOWN HV2 HNEW HLEN hgrow hbA hown' hb2 hS2 HC
    go_wp2_with fail
    go_ret2
  · exact ⟨g3, cap3, rfl, (HE.out 4).1, (HE.out 4).2⟩
  · exact ⟨g3, cap3, rfl, (HE.out 1).1, (HE.out 1).2⟩
end
end Go.Proofs.YtkpcgijdokhjkaaDoor

namespace Go.Proofs.YtkpcgijdokhjkaaDoor
open Go Go.RowKit
set_option linter.unusedVariables false
set_option linter.unusedSimpArgs false
def turnS (a t b s : Int) (z : Int) : Int := if z = b then s else if z = a then t else z
def turnTo (f : Nat → Int) (a t b s : Int) (j : Nat) (q : Nat) : Int := if q < j then turnS a t b s (f q) else f q
theorem turnTo_put (f : Nat → Int) (a t b s : Int) (j : Nat) : (fun q => if q = j then turnS a t b s (f j) else turnTo f a t b s j q) = turnTo f a t b s (j + 1) := by
  funext q
  unfold turnTo
  by_cases h : q = j
  · subst h; simp
  · rw [if_neg h]
    by_cases h2 : q < j
    · rw [if_pos h2, if_pos (by omega)]
    · rw [if_neg h2, if_neg (by omega)]
section
variable {w : World} {B k n c : Nat} {f : Nat → Int}
set_option maxRecDepth 100000 in
set_option maxHeartbeats 4000000 in
theorem rrturned_any (h1 : 1 ≤ n) (h : SA w B k n c f) (x t y s : Int) (hxy : x ≠ y) : Calls Tryd.prog 59 #[.slice (some ⟨k, 0, none⟩) n c, .int .i64 x, .int .i64 t, .int .i64 y, .int .i64 s] w fun e w' => ∃ k' c', e = .returned (.slice (some ⟨k', 0, none⟩) n c') ∧ SA w' w.heap.size k' n c' (fun q => turnS x t y s (f q)) ∧ Below w.heap.size w w' := by
  obtain ⟨i0, hi, hz0, hz1, hz2⟩ := info_parts infoInt
  have hn := h.n2
  have hbA : Below w.heap.size w (w.alloc (.cells #[] 3)) := below_new1 _ _
  have HOWN : Hid ((w.alloc (.cells #[] 3)).ownsRow w.heap.size 3 1 (.slice (some ⟨w.heap.size, 0, none⟩) 0 0) 0 []) := kown_empty (Blk.new w 3 #[]) (Nat.le_refl _)
  have HV2 := (HOWN.out).lt
  have HNEW : Hid (∀ j u, (stL f n)[j]? = some u → (w.alloc (.cells #[] 3)).cell? ((⟨k, 0, none⟩ : Addr).add j) = some u) := (h.below hbA).news
  have HLEN : Hid ((stL f n).length = n * 1) := by show _ = _; rw [stL_len, Nat.mul_one]
  have hml : 0 + n ≤ maxLen := Nat.le_trans (show _ ≤ 8192 by omega) (by decide)
  have HS : Hid (∀ V, Below w.heap.size w V → SA V B k n c f) := fun V hV => h.below hV
  have HKL : Hid (k < w.heap.size) := h.lt.2
  clear h
  go_enter Tryd.func59, Tryd.ntmps59
  go_wp2_with (first
    | (at_builtin; refine bi_append_at rfl _ _ 60 rfl w.heap.size 3 i0 (.int .i64 0) 1 8 Tryd.underlying60 hi hz0 hz1 hz2 rfl (by decide) _ 0 [] rfl HOWN.out ⟨k, 0, none⟩ n c (stL f n) rfl HLEN.out HNEW.out (stL_one f n) hml (by omega) (by simp) ?_)
    | go_in)
  intro v' w2 hown' hgrow _
  have hb2 : Below w.heap.size w w2 := hbA.grown hgrow (by simp) (fun q hq => (HV2 q hq).1)
  try rw [Nat.zero_add, List.nil_append] at hown'
  obtain ⟨g3, cap3, rfl, hg3, hg3'⟩ := kown_form hown' (by omega)
  have HE : Hid (SA w2 w.heap.size g3 n cap3 (turnTo f x t y s 0) ∧ Below w.heap.size w w2) := ⟨SA.congr ⟨hn, hown'⟩ (fun i hi => rfl), hb2⟩
  clear HOWN HV2 HNEW HLEN hgrow hbA hown' hb2
  have HG3 : Hid (w.heap.size ≤ g3) := hg3
  go_wp2_with fail
  go_loopw [18] (fun u wr => Hid (∃ j : Nat, j ≤ n ∧ u = .int .i64 (j : Int) ∧ SA wr w.heap.size g3 n cap3 (turnTo f x t y s j) ∧ Below w.heap.size w wr)) (fun u _ => n - (intOf u).toNat)
  case atStart => exact ⟨0, by omega, rfl, HE.out.1, HE.out.2⟩
  case round =>
    obtain ⟨j, hj, rfl, hS, hb⟩ := Hid.out hrel
    clear hrel HE
    by_cases hlt : j < n
    · have cs := (HS.out wr hb).at hlt
      have c2 := hS.at hlt
      have f2 := hS.frozen j
      have j0 : (0 : Int) ≤ (j : Int) := by omega
      have j1 : (j : Int) < (n : Int) := by omega
      have hkg : k ≠ g3 := by have q1 := HKL.out; have q2 := HG3.out; omega
      have HT : Hid (∀ V z, z = turnS x t y s (f j) → SA V w.heap.size g3 n cap3 (fun q => if q = j then z else turnTo f x t y s j q) → Below w.heap.size w V → SA V w.heap.size g3 n cap3 (turnTo f x t y s (j + 1)) ∧ Below w.heap.size w V) := fun V z hz hV hb' => ⟨by rw [← turnTo_put, ← hz]; exact hV, hb'⟩
      have HJ : Hid (j < n) := hlt
      have hcur : turnTo f x t y s j j = f j := by unfold turnTo; rw [if_neg (by omega)]
      by_cases e1 : f j = x
      · have e2 : ¬ f j = y := fun q => hxy (e1.symm.trans q)
        have HE : Hid (SA (wr.setCell ⟨g3, j, none⟩ (.int .i64 t)) w.heap.size g3 n cap3 (turnTo f x t y s (j + 1)) ∧ Below w.heap.size w (wr.setCell ⟨g3, j, none⟩ (.int .i64 t))) := HT.out _ t (by unfold turnS; rw [if_neg e2, if_pos e1]) (hS.put j t) (hb.setCell (p := ⟨g3, j, none⟩) hS.lt.1 _)
        have cs3 : (wr.setCell ⟨g3, j, none⟩ (.int .i64 t)).cell? ⟨k, j, none⟩ = some (.int .i64 x) := by
          have := (HS.out _ HE.out.2).at hlt
          rwa [e1] at this
        rw [e1] at cs
        have hyx : (x == y) = false := by simp [hxy]
        clear hS hb HS HT hcur e1 e2
        go_wp2_with fail
        go_roundw
        case rel => exact ⟨j + 1, HJ.out, by first | rfl | go_num | simp, HE.out.1, HE.out.2⟩
        case measure => simp [intOf]; have := HJ.out; omega
      · by_cases e2 : f j = y
        · have HE : Hid (SA (wr.setCell ⟨g3, j, none⟩ (.int .i64 s)) w.heap.size g3 n cap3 (turnTo f x t y s (j + 1)) ∧ Below w.heap.size w (wr.setCell ⟨g3, j, none⟩ (.int .i64 s))) := HT.out _ s (by unfold turnS; rw [if_pos e2]) (hS.put j s) (hb.setCell (p := ⟨g3, j, none⟩) hS.lt.1 _)
          rw [e2] at cs
          have hyx : (y == x) = false := by simp [Ne.symm hxy]
          have hyx2 : ¬ y = x := Ne.symm hxy
          clear hS hb HS HT hcur e1 e2
          go_wp2_with fail
          go_roundw
          case rel => exact ⟨j + 1, HJ.out, by first | rfl | go_num | simp, HE.out.1, HE.out.2⟩
          case measure => simp [intOf]; have := HJ.out; omega
        · have HE : Hid (SA wr w.heap.size g3 n cap3 (turnTo f x t y s (j + 1)) ∧ Below w.heap.size w wr) := ⟨hS.congr fun i hi => by
            have := congrFun (turnTo_put f x t y s j) i
            rw [← this]
            by_cases e : i = j
            · subst e
              rw [if_pos rfl, hcur]
              unfold turnS
              rw [if_neg e2, if_neg e1]
            · rw [if_neg e], hb⟩
          have h1b : (f j == x) = false := by simp [e1]
          have h2b : (f j == y) = false := by simp [e2]
          clear hS hb HS HT hcur
          generalize f j = z at *
          go_wp2_with fail
          go_roundw
          case rel => exact ⟨j + 1, HJ.out, by first | rfl | go_num | simp, HE.out.1, HE.out.2⟩
          case measure => simp [intOf]; have := HJ.out; omega
    · obtain rfl : j = n := by omega
      have j1 : ¬ ((j : Int) < (j : Int)) := by omega
      have HE : Hid (SA wr w.heap.size g3 j cap3 (fun q => turnS x t y s (f q)) ∧ Below w.heap.size w wr) := ⟨hS.congr fun i hi => by unfold turnTo; rw [if_pos hi], hb⟩
      clear hS hb HS
      go_wp2_with fail
      go_ret
      exact ⟨g3, cap3, rfl, HE.out.1, HE.out.2⟩
theorem rrswing_any (h1 : 1 ≤ n) (h : SA w B k n c f) : Calls Tryd.prog 34 #[.slice (some ⟨k, 0, none⟩) n c] w fun e w' => ∃ k' c', e = .returned (.slice (some ⟨k', 0, none⟩) n c') ∧ SA w' w.heap.size k' n c' (fun q => turnS 3 2 4 1 (f q)) ∧ Below w.heap.size w w' := by
  have HT := rrturned_any h1 h 3 2 4 1 (by decide)
  clear h
  go_enter Tryd.func34, Tryd.ntmps34
  go_wp2_with fail
  refine HT.mono ?_
  rintro e w1 ⟨k', c', rfl, h2, h3⟩
  have HE : Hid (_ ∧ _) := ⟨h2, h3⟩
  clear h2 h3
  go_wp2_with fail
  go_ret
  exact ⟨k', c', rfl, HE.out.1, HE.out.2⟩
theorem rrback_any (h1 : 1 ≤ n) (h : SA w B k n c f) : Calls Tryd.prog 35 #[.slice (some ⟨k, 0, none⟩) n c] w fun e w' => ∃ k' c', e = .returned (.slice (some ⟨k', 0, none⟩) n c') ∧ SA w' w.heap.size k' n c' (fun q => turnS 3 1 4 2 (f q)) ∧ Below w.heap.size w w' := by
  have HT := rrturned_any h1 h 3 1 4 2 (by decide)
  clear h
  go_enter Tryd.func35, Tryd.ntmps35
  go_wp2_with fail
  refine HT.mono ?_
  rintro e w1 ⟨k', c', rfl, h2, h3⟩
  have HE : Hid (_ ∧ _) := ⟨h2, h3⟩
  clear h2 h3
  go_wp2_with fail
  go_ret
  exact ⟨k', c', rfl, HE.out.1, HE.out.2⟩
end
end Go.Proofs.YtkpcgijdokhjkaaDoor

namespace Go.Proofs.YtkpcgijdokhjkaaDoor
open Go Go.RowKit
set_option linter.unusedVariables false
set_option linter.unusedSimpArgs false
section
variable {n : Nat} {F G : Nat → Bool}
/-- the states, told by what both trees have -/
def tieS (F G : Nat → Bool) (n : Nat) (p : Nat) : Int := (stAt F G n p : Int)
theorem tie_new (A : Nat → Nat) (N : Nat) {p : Nat} (hp : p < n) : newS A N p = tieS (memA A N) (memA A N) n p := by
  unfold newS tieS stAt stN
  by_cases h : p = 0
  · rw [if_pos h, if_pos (.inl h)]
    rfl
  · have h' : ¬ n ≤ p := by omega
    cases memA A N p <;> simp [h, h']
theorem tie_swing {p : Nat} (hp : p < n) : turnS 3 2 4 1 (tieS F G n p) = tieS G G n p := by
  unfold turnS tieS stAt stN
  by_cases h : p = 0
  · simp [h]
  · have h' : ¬ (p = 0 ∨ n ≤ p) := by omega
    cases F p <;> cases G p <;> simp [h']
theorem tie_back {p : Nat} (hp : p < n) : turnS 3 1 4 2 (tieS F G n p) = tieS F F n p := by
  unfold turnS tieS stAt stN
  by_cases h : p = 0
  · simp [h]
  · have h' : ¬ (p = 0 ∨ n ≤ p) := by omega
    cases F p <;> cases G p <;> simp [h']
theorem tie_free {p : Nat} (hp : p < n) : tieS F G n p = 1 ↔ 1 ≤ p ∧ F p = false ∧ G p = false := by
  unfold tieS stAt stN
  by_cases h : p = 0
  · simp [h]
  · have h' : ¬ (p = 0 ∨ n ≤ p) := by omega
    have h1 : 1 ≤ p := by omega
    cases F p <;> cases G p <;> simp [h', h1]
theorem tie_let {p : Nat} (hp : p < n) (hG0 : G 0 = false) : (tieS F G n p = 2 ∨ tieS F G n p = 3) ↔ G p = true := by
  unfold tieS stAt stN
  by_cases h : p = 0
  · simp [h, hG0]
  · have h' : ¬ (p = 0 ∨ n ≤ p) := by omega
    cases F p <;> cases G p <;> simp [h']
theorem tie_take {p q : Nat} (hp : 1 ≤ p) (hF : F p = false) (hq : q < n) : (if q = p then (3 : Int) else tieS F G n q) = tieS F (fun x => if x = p then true else G x) n q := by
  unfold tieS stAt stN
  by_cases h : q = p
  · subst h
    have h' : ¬ (q = 0 ∨ n ≤ q) := by omega
    simp [h', hF]
  · simp [h]
theorem tie_gone {p q : Nat} (hp : 1 ≤ p) (hG : G p = true) (hpn : p < n) (hq : q < n) : (if q = p then (if tieS F G n p = 2 then (4 : Int) else 1) else tieS F G n q) = tieS F (fun x => if x = p then false else G x) n q := by
  unfold tieS stAt stN
  by_cases h : q = p
  · subst h
    have h' : ¬ (q = 0 ∨ n ≤ q) := by omega
    cases F q <;> simp [h', hG]
  · simp [h]
/-- the least free block, told by the states -/
theorem tie_least {p : Nat} (hp : p < n) (h1 : tieS F G n p = 1) (hl : ∀ q, q < p → tieS F G n q ≠ 1) : freeF F G n = (p : Int) := by
  obtain ⟨p1, hF, hG⟩ := (tie_free hp).1 h1
  refine (nxt_eq ⟨fun e => by omega, fun _ => ⟨p, rfl, p1, hp, by simp [hF, hG], fun q q1 q2 => ?_⟩⟩).symm
  have := hl q q2
  rw [Ne, tie_free (by omega)] at this
  cases hFq : F q <;> cases hGq : G q <;> simp_all
theorem tie_none (h : ∀ p, p < n → tieS F G n p ≠ 1) : freeF F G n = -1 := by
  refine (nxt_eq ⟨fun _ q q1 q2 => ?_, fun e => absurd rfl e⟩).symm
  have := h q q2
  rw [Ne, tie_free q2] at this
  cases hFq : F q <;> cases hGq : G q <;> simp_all
theorem tie_list (s : Int) {p : Nat} (hp : p < n) : decide (tieS F G n p = s) = inF F G n s p := by
  unfold tieS inF
  simp [hp]
theorem tie_state {p : Nat} : (if p < n then tieS F G n p else 0) = tieS F G n p := by
  by_cases h : p < n
  · rw [if_pos h]
  · rw [if_neg h]
    unfold tieS stAt
    rw [if_pos (.inr (by omega))]
    rfl
end
end Go.Proofs.YtkpcgijdokhjkaaDoor

namespace Go.Proofs.YtkpcgijdokhjkaaDoor
open Go Go.RowKit
set_option linter.unusedVariables false
set_option linter.unusedSimpArgs false
section
variable {w : World} {B k n c : Nat} {f : Nat → Int}
/-- whether a state is one of those that would be used -/
def keptB (z : Int) : Bool := (z == 2) || (z == 3)
set_option maxRecDepth 100000 in
set_option maxHeartbeats 4000000 in
theorem lawLeaves_any (h1 : 1 ≤ n) (h : SA w B k n c f) : Calls Tryd.prog 61 #[.slice (some ⟨k, 0, none⟩) n c] w fun e w' => ∃ v W, e = .returned (.tuple #[v, .bool true]) ∧ (∀ i, W i < 18446744073709551616) ∧ (∀ p, bitF W p = (decide (p < n) && keptB (f p))) ∧ w'.ownsRow w.heap.size 93 256 v (lvN n) (byL (lvsF W) (lvN n * 256)) ∧ Below w.heap.size w w' := by
  have hn := h.n2
  have HN := newM_ok n h1 hn w
  have HS : Hid (∀ V, Below w.heap.size w V → SA V B k n c f) := fun V hV => h.below hV
  clear h
  go_enter Tryd.func61, Tryd.ntmps61
  go_wp2_with fail
  refine HN.mono ?_
  rintro e w1 ⟨g, b, cm, rfl, hM1, hb1⟩
  have HM1 : Hid (BM w1 w.heap.size g n b cm (fun _ => 0) ∧ Below w.heap.size w w1) := ⟨hM1, hb1⟩
  clear hM1 hb1 HN
  go_wp2_with fail
  go_loopw [22] (fun t wr => Hid (∃ (j : Nat) (W : Nat → Nat), j ≤ n ∧ t = .int .i64 (j : Int) ∧ BM wr w.heap.size g n b cm W ∧ (∀ p, bitF W p = (decide (p < j) && keptB (f p))) ∧ Below w.heap.size w wr)) (fun t _ => n - (intOf t).toNat)
  case atStart => exact ⟨0, fun _ => 0, by omega, rfl, HM1.out.1, fun p => by rw [bitF_zero]; simp, HM1.out.2⟩
  case round =>
    obtain ⟨j, W, hj, rfl, hM, hbits, hb⟩ := Hid.out hrel
    clear hrel HM1
    by_cases hlt : j < n
    · have cs := (HS.out wr hb).at hlt
      have j0 : (0 : Int) ≤ (j : Int) := by omega
      have j1 : (j : Int) < (n : Int) := by omega
      have HSE := set_in wr hM j hlt
      have HJ : Hid (j < n ∧ n ≤ 8192) := ⟨hlt, hn⟩
      have HMM : Hid (BM wr w.heap.size g n b cm W ∧ (∀ p, bitF W p = (decide (p < j) && keptB (f p))) ∧ Below w.heap.size w wr) := ⟨hM, hbits, hb⟩
      have HYES : Hid (keptB (f j) = true → ∀ w3, BM w3 w.heap.size g n b cm (putW W j) → Only b wr w3 → BM w3 w.heap.size g n b cm (putW W j) ∧ (∀ p, bitF (putW W j) p = (decide (p < j + 1) && keptB (f p))) ∧ Below w.heap.size w w3) := fun hk w3 hM3 hO3 => by
        refine ⟨hM3, fun p => ?_, hb.trans (hO3.below hb.size hM3.blt.1)⟩
        rw [put_ifL, hbits]
        by_cases e : p = j
        · subst e
          simp [hk]
        · rw [if_neg e]
          by_cases e2 : p < j
          · have e3 : p < j + 1 := by omega
            simp [e2, e3]
          · have e3 : ¬ p < j + 1 := by omega
            simp [e2, e3]
      have HNO : Hid (keptB (f j) = false → ∀ p, bitF W p = (decide (p < j + 1) && keptB (f p))) := fun hk p => by
        rw [hbits]
        by_cases e : p = j
        · subst e
          simp [hk]
        · by_cases e2 : p < j
          · have e3 : p < j + 1 := by omega
            simp [e2, e3]
          · have e3 : ¬ p < j + 1 := by omega
            simp [e2, e3]
      clear hM hbits hb HS
      generalize hfj : f j = z at *
      clear hfj
      by_cases z2 : z = 2
      · subst z2
        go_wp2_with fail
        refine HSE.mono ?_
        rintro e w3 ⟨rfl, hM3, hO3⟩
        have HE : Hid (_ ∧ _ ∧ _) := HYES.out rfl w3 hM3 hO3
        clear hM3 hO3 HSE HMM HYES HNO cs
        go_wp2_with fail
        go_roundw
        case rel => exact ⟨j + 1, putW W j, HJ.out.1, by first | rfl | go_num | simp, HE.out.1, HE.out.2.1, HE.out.2.2⟩
        case measure => simp [intOf]; have := HJ.out; omega
      · by_cases z3 : z = 3
        · subst z3
          go_wp2_with fail
          refine HSE.mono ?_
          rintro e w3 ⟨rfl, hM3, hO3⟩
          have HE : Hid (_ ∧ _ ∧ _) := HYES.out rfl w3 hM3 hO3
          clear hM3 hO3 HSE HMM HYES HNO cs
          go_wp2_with fail
          go_roundw
          case rel => exact ⟨j + 1, putW W j, HJ.out.1, by first | rfl | go_num | simp, HE.out.1, HE.out.2.1, HE.out.2.2⟩
          case measure => simp [intOf]; have := HJ.out; omega
        · have z2b : (z == 2) = false := by simp [z2]
          have z3b : (z == 3) = false := by simp [z3]
          have HE : Hid (∀ p, bitF W p = (decide (p < j + 1) && keptB (f p))) := HNO.out (by unfold keptB; rw [z2b, z3b]; rfl)
          clear HSE HYES HNO
          go_wp2_with fail
          go_roundw
          case rel => exact ⟨j + 1, W, HJ.out.1, by first | rfl | go_num | simp, HMM.out.1, HE.out, HMM.out.2.2⟩
          case measure => simp [intOf]; have := HJ.out; omega
    · obtain rfl : j = n := by omega
      have j1 : ¬ ((j : Int) < (j : Int)) := by omega
      have HLV := leavesM_any wr hM
      have HF : Hid ((∀ i, W i < 18446744073709551616) ∧ (∀ p, bitF W p = (decide (p < j) && keptB (f p))) ∧ Below w.heap.size w wr) := ⟨hM.lt, hbits, hb⟩
      clear hM hbits hb HS
      go_wp2_with fail
      refine HLV.mono ?_
      rintro e w3 ⟨v, rfl, hown, hb3⟩
      have HE : Hid (w3.ownsRow w.heap.size 93 256 v (lvN j) (byL (lvsF W) (lvN j * 256)) ∧ Below w.heap.size w w3) := ⟨kown_mono hown HF.out.2.2.size, HF.out.2.2.trans (hb3.mono HF.out.2.2.size)⟩
      clear hown hb3 HLV
      go_wp2_with fail
      go_ret2
      exact ⟨v, W, rfl, HF.out.1, HF.out.2.1, HE.out.1, HE.out.2⟩
end
end Go.Proofs.YtkpcgijdokhjkaaDoor
