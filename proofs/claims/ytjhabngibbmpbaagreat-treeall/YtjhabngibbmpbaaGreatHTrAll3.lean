/- Trees: All, Count and Last, told as one each. -/
import Derived.Test.YtjhabngibbmpbaaGreatHTrAll

namespace Go.Proofs.YtjhabngibbmpbaaGreat
open Go Go.RowKit
set_option linter.unusedSimpArgs false
set_option linter.unusedVariables false
/-- two counters -/
def QC (lb nb : Nat) (s : Nat × Nat) (_ : Unit) (V : World) : Prop := Blk V lb 3 #[.int .i64 (s.1 : Int)] ∧ Blk V nb 3 #[.int .i64 (s.2 : Int)] ∧ lb ≠ nb
def ftC (lb nb : Nat) (_ : Unit) (b : Nat) : Prop := b = lb ∨ b = nb
def QL (tb : Nat) (s : Int) (_ : Unit) (V : World) : Prop := Blk V tb 3 #[.int .i64 s]
def ftL (tb : Nat) (_ : Unit) (b : Nat) : Prop := b = tb
set_option maxRecDepth 100000 in
set_option maxHeartbeats 8000000 in
theorem count1_any {lb nb : Nat} (s : Nat × Nat) (V : World) (l : Nat) (p : Int) (R : Rf) (hs : s.1 + s.2 < 34359738000) (H : QC lb nb s () V) : Calls Tryz.prog 57 #[.agg (poC (l : Int) p R), .pointer (some ⟨lb, 0, none⟩), .pointer (some ⟨nb, 0, none⟩)] V fun e w' => e = .returned (.bool true) ∧ QC lb nb (cntG s (l, p, R)) () w' ∧ Turns (ftC lb nb ()) V w' := by
  obtain ⟨x, y⟩ := s
  obtain ⟨h1, h2, h3⟩ := H
  have b0 : Blk (V.alloc (.cells (poC (l : Int) p R) 75)) V.heap.size 75 (poC (l : Int) p R) := Blk.new _ _ _
  have z0 : (V.alloc (.cells (poC (l : Int) p R) 75)).cell? ⟨V.heap.size, 0, none⟩ = some (.int .i64 (l : Int)) := (b0.cell 0).trans (va_at (poF (l : Int) p R) (by decide))
  have g1 : Blk (V.alloc (.cells (poC (l : Int) p R) 75)) lb 3 #[.int .i64 (x : Int)] := h1.alloc _
  have g2 : Blk (V.alloc (.cells (poC (l : Int) p R) 75)) nb 3 #[.int .i64 (y : Int)] := h2.alloc _
  have c1 : (V.alloc (.cells (poC (l : Int) p R) 75)).cell? ⟨lb, 0, none⟩ = some (.int .i64 (x : Int)) := (g1.cell 0).trans rfl
  have c2 : (V.alloc (.cells (poC (l : Int) p R) 75)).cell? ⟨nb, 0, none⟩ = some (.int .i64 (y : Int)) := (g2.cell 0).trans rfl
  have f1 := g1.frozen 0
  have f2 := g2.frozen 0
  have hb : Below V.heap.size V (V.alloc (.cells (poC (l : Int) p R) 75)) := below_new1 _ _
  have HG : Hid (Blk (V.alloc (.cells (poC (l : Int) p R) 75)) lb 3 #[.int .i64 (x : Int)] ∧ Blk (V.alloc (.cells (poC (l : Int) p R) 75)) nb 3 #[.int .i64 (y : Int)] ∧ lb ≠ nb ∧ Below V.heap.size V (V.alloc (.cells (poC (l : Int) p R) 75))) := ⟨g1, g2, h3, hb⟩
  have hx : x < 34359738000 := by simp only at hs; omega
  have hy : y < 34359738000 := by simp only at hs; omega
  clear hs h1 h2 h3 g1 g2 hb b0
  go_enter Tryz.func57, Tryz.ntmps57
  have HLI : Hid ((l : Int) = 0 ↔ l = 0) := by show _ ↔ _; omega
  generalize hli : (l : Int) = li at *
  clear hli
  by_cases hc0 : li = 0
  · subst hc0
    go_wp2_with fail
    go_ret
    have e : cntG (x, y) (l, p, R) = (x + 1, y) := by
      unfold cntG
      rw [if_pos (HLI.out.1 (by first | rfl | trivial))]
    rw [e]
    refine ⟨rfl, ⟨gs_setc HG.out.1 _, (gs_cell (S := fun b => b = lb) _ lb 0 _ rfl).blk HG.out.2.1 (fun q => HG.out.2.2.1 q.symm), HG.out.2.2.1⟩, (Turns.of_below HG.out.2.2.2).trans (gs_cell (S := fun b => b = lb) _ lb 0 _ rfl) fun b q => .inl (.inl q)⟩
  · go_wp2_with fail
    go_ret
    have e : cntG (x, y) (l, p, R) = (x, y + 1) := by
      unfold cntG
      rw [if_neg fun q => hc0 (HLI.out.2 q)]
    rw [e]
    refine ⟨rfl, ⟨(gs_cell (S := fun b => b = nb) _ nb 0 _ rfl).blk HG.out.1 (fun q => HG.out.2.2.1 q), gs_setc HG.out.2.1 _, HG.out.2.2.1⟩, (Turns.of_below HG.out.2.2.2).trans (gs_cell (S := fun b => b = nb) _ nb 0 _ rfl) fun b q => .inl (.inr q)⟩
set_option maxRecDepth 100000 in
set_option maxHeartbeats 8000000 in
theorem last1_any {tb : Nat} (s : Int) (V : World) (l : Nat) (p : Int) (R : Rf) (H : QL tb s () V) : Calls Tryz.prog 58 #[.agg (poC (l : Int) p R), .pointer (some ⟨tb, 0, none⟩)] V fun e w' => e = .returned (.bool true) ∧ QL tb (lstG s (l, p, R)) () w' ∧ Turns (ftL tb ()) V w' := by
  have b0 : Blk (V.alloc (.cells (poC (l : Int) p R) 75)) V.heap.size 75 (poC (l : Int) p R) := Blk.new _ _ _
  have z0 : (V.alloc (.cells (poC (l : Int) p R) 75)).cell? ⟨V.heap.size, 0, none⟩ = some (.int .i64 (l : Int)) := (b0.cell 0).trans (va_at (poF (l : Int) p R) (by decide))
  have z1 : (V.alloc (.cells (poC (l : Int) p R) 75)).cell? ⟨V.heap.size, 1, none⟩ = some (.int .i64 p) := (b0.cell 1).trans (va_at (poF (l : Int) p R) (by decide))
  have g1 : Blk (V.alloc (.cells (poC (l : Int) p R) 75)) tb 3 #[.int .i64 s] := Blk.alloc H _
  have f1 := g1.frozen 0
  have c1 := (g1.cell 0).trans rfl
  have hb : Below V.heap.size V (V.alloc (.cells (poC (l : Int) p R) 75)) := below_new1 _ _
  have HG : Hid (Blk (V.alloc (.cells (poC (l : Int) p R) 75)) tb 3 #[.int .i64 s] ∧ Below V.heap.size V (V.alloc (.cells (poC (l : Int) p R) 75))) := ⟨g1, hb⟩
  clear H g1 hb b0
  go_enter Tryz.func58, Tryz.ntmps58
  have HLI : Hid ((l : Int) = 0 ↔ l = 0) := by show _ ↔ _; omega
  generalize hli : (l : Int) = li at *
  clear hli
  by_cases hc0 : li = 0
  · subst hc0
    go_wp2_with fail
    go_ret
    have e : lstG s (l, p, R) = p := if_pos (HLI.out.1 (by first | rfl | trivial))
    rw [e]
    exact ⟨rfl, gs_setc HG.out.1 _, (Turns.of_below HG.out.2).trans (gs_cell (S := fun b => b = tb) _ tb 0 _ rfl) fun b q => .inl q⟩
  · go_wp2_with fail
    go_ret
    have e : lstG s (l, p, R) = s := if_neg fun q => hc0 (HLI.out.2 q)
    rw [e]
    exact ⟨rfl, HG.out.1, Turns.of_below HG.out.2⟩
theorem count1_dk (lb nb : Nat) : DK 57 #[.pointer (some ⟨lb, 0, none⟩), .pointer (some ⟨nb, 0, none⟩)] (ftC lb nb) (QC lb nb) (fun s => s.1 + s.2) (fun s l p R => (cntG s (l, p, R), true)) where
  call := fun s z V l p R hl hp0 hp1 hR hs H => (count1_any s V l p R hs H).mono fun e w' ⟨e1, h1, h2⟩ => ⟨e1, (), h1, h2, fun b q => .inl q, by
    show (cntG s (l, p, R)).1 + (cntG s (l, p, R)).2 ≤ _
    unfold cntG
    split <;> simp only <;> omega⟩
  keep := fun s z V V' T h ht hT => ⟨ht.blk h.1 fun q => hT _ q (.inl rfl), ht.blk h.2.1 fun q => hT _ q (.inr rfl), h.2.2⟩
  lt := fun s z V b h hb => hb.elim (fun e => e ▸ h.1.lt) fun e => e ▸ h.2.1.lt
theorem last1_dk (tb : Nat) : DK 58 #[.pointer (some ⟨tb, 0, none⟩)] (ftL tb) (QL tb) (fun _ => 0) (fun s l p R => (lstG s (l, p, R), true)) where
  call := fun s z V l p R hl hp0 hp1 hR hs H => (last1_any s V l p R H).mono fun e w' ⟨e1, h1, h2⟩ => ⟨e1, (), h1, h2, fun b q => .inl q, Nat.zero_le _⟩
  keep := fun s z V V' T h ht hT => ht.blk (show Blk V tb 3 #[.int .i64 s] from h) fun q => hT _ q rfl
  lt := fun s z V b h hb => by
    have h : Blk V tb 3 #[.int .i64 s] := h
    have hb : b = tb := hb
    exact hb ▸ h.lt
end Go.Proofs.YtjhabngibbmpbaaGreat

namespace Go.Proofs.YtjhabngibbmpbaaGreat
open Go Go.RowKit
set_option linter.unusedSimpArgs false
set_option linter.unusedVariables false
/-- all that Each meets, and what is wrong -/
def evR (F : Nat → Nat) (N : Nat) (h : Int) (R : Rf) : List Ps × Int := if trOk h R then bnR F N h.toNat 0 R else ([], 1)
theorem each_fold {σ : Type} {F : Nat → Nat} {N : Nat} {gf : σ → Ps → σ} {dn : σ → Nat → Int → Rf → σ × Bool} (hd : ∀ s l p R, dn s l p R = (gf s (l, p, R), true)) (h : Int) (R : Rf) (s : σ) : eachR F N dn h R s = ((true, (evR F N h R).1.foldl gf s), (evR F N h R).2) := by
  unfold eachR evR
  split
  · exact wlk_fold hd _ _ _ _
  · rfl
theorem fold_snoc : ∀ (l s : List Ps), l.foldl (fun s x => s ++ [x]) s = s ++ l
  | [], s => by simp
  | x :: l, s => by rw [List.foldl_cons, fold_snoc l, List.append_assoc]; rfl
def allV (F : Nat → Nat) (N : Nat) (h : Int) (R : Rf) : List Ps × Int := if (evR F N h R).2 = 0 then ((evR F N h R).1, 0) else ([], (evR F N h R).2)
def cntV (F : Nat → Nat) (N : Nat) (h : Int) (R : Rf) : Nat × Nat := if (evR F N h R).2 = 0 then (evR F N h R).1.foldl cntG (0, 0) else (0, 0)
def lstV (F : Nat → Nat) (N : Nat) (h : Int) (R : Rf) : Int := if (evR F N h R).2 = 0 then (evR F N h R).1.foldl lstG (-1) else 0
section
variable {B g N c m room i : Nat} {F : Nat → Nat} {U : Nat → Prop}
theorem step_of {σ α : Type} {ft : α → Nat → Prop} {Q : σ → α → World → Prop} {cnt : σ → Nat} {w w1 w2 : World} {i' : Nat} {z : α} {s' : σ} (hb : Below w.heap.size w w1) (hz : ∀ b, ft z b → w.heap.size ≤ b) (h : WSt B g N F c m room ft Q cnt w1 w2 i' U z s') : TDStep w w2 B g N F c m room i' U := by
  obtain ⟨U', z', h1, h2, h3⟩ := h
  refine ⟨U', h1.td, (Turns.of_below (S := U) hb).trans h2 fun b q => q.imp id (hz b), fun b q => ?_⟩
  rcases h3 b (.inl q) with (u | u) | u
  · exact .inl u
  · exact .inr (hz b u)
  · exact .inr (Nat.le_trans hb.size u)
set_option maxRecDepth 100000 in
set_option maxHeartbeats 8000000 in
theorem all9_any (h : Int) (R : Rf) (hR : R.1 < 4294967296) (hD : okD R.2) (hF : ∀ a, F a < 256) (hi : i < 34359700000) (w : World) (H : TD w B g N F c m room i U) : Calls Tryz.prog 24 #[.pointer (some ⟨c, 0, none⟩), .agg (trC h R)] w fun e w' => ∃ v, e = .returned (.tuple #[v, .int .i64 (allV F N h R).2]) ∧ w'.ownsRow w.heap.size 75 35 v (allV F N h R).1.length (posL (allV F N h R).1) ∧ ∃ V, TD w' B g N F c m room (i + 10922) V ∧ Turns U w w' ∧ (∀ x, V x → U x ∨ w.heap.size ≤ x) ∧ ∀ k, v.ownBlock = some k → ¬ V k := by
  have hb1 : Below w.heap.size w ((w.alloc (.cells (trC h R) 46)).alloc (.cells #[.slice none 0 0] 64)) := below_new2 _ _ _
  have t1 : Blk ((w.alloc (.cells (trC h R) 46)).alloc (.cells #[.slice none 0 0] 64)) w.heap.size 46 (trC h R) := (Blk.new _ _ _).alloc _
  have HB1 : Hid (Below w.heap.size w ((w.alloc (.cells (trC h R) 46)).alloc (.cells #[.slice none 0 0] 64))) := hb1
  have HZ : Hid (∀ b, gft (w.heap.size + 1) (.slice none 0 0) b → b = w.heap.size + 1) := fun b q => by
    rcases q with q | q
    · exact q
    · simp [Value.ownBlock] at q
  have HW1 : WS B g N F c m room (gft (w.heap.size + 1)) (QA (w.heap.size + 1) w.heap.size) List.length ((w.alloc (.cells (trC h R) 46)).alloc (.cells #[.slice none 0 0] 64)) i U [] (.slice none 0 0) := by
    have hq : PB ((w.alloc (.cells (trC h R) 46)).alloc (.cells #[.slice none 0 0] 64)) (w.heap.size + 1) w.heap.size (.slice none 0 0) [] := ⟨Blk.new1 _ _ _ _, ⟨rfl, .inl ⟨rfl, rfl⟩⟩, by simp [Value.ownBlock]⟩
    refine ⟨H.below hb1, ⟨hq, hb1.size⟩, fun b q u => ?_, Nat.zero_le _, fun b q => hq.lt b q⟩
    have h1 := HZ.out b q
    have h2 := (H.lt b u).2
    omega
  have HEc : Hid (Calls Tryz.prog 28 #[.pointer (some ⟨c, 0, none⟩), .agg (trC h R), .func (.func 56) #[] #[.pointer (some ⟨w.heap.size + 1, 0, none⟩)]] ((w.alloc (.cells (trC h R) 46)).alloc (.cells #[.slice none 0 0] 64)) fun e w' => e = .returned (.int .i64 (eachR F N dnA h R []).2) ∧ WSt B g N F c m room (gft (w.heap.size + 1)) (QA (w.heap.size + 1) w.heap.size) List.length ((w.alloc (.cells (trC h R) 46)).alloc (.cells #[.slice none 0 0] 64)) w' (i + 10922) U (.slice none 0 0) (eachR F N dnA h R []).1.2) := each9_any (fun args w => rfl) (tall1_dk (w.heap.size + 1) w.heap.size) h R hR hD hF [] (.slice none 0 0) hi _ HW1
  have hev : eachR F N dnA h R [] = ((true, (evR F N h R).1), (evR F N h R).2) := by
    rw [each_fold (dn := dnA) (gf := fun s x => s ++ [x]) (fun s l p R => rfl), fold_snoc]
    rfl
  rw [hev] at HEc
  unfold allV
  generalize evR F N h R = ev at *
  obtain ⟨L, er⟩ := ev
  clear hev HW1 H hR hD hF hi hb1
  have HAL : Hid ((er = 0 → (if er = 0 then (L, (0 : Int)) else ([], er)) = (L, 0)) ∧ (er ≠ 0 → (if er = 0 then (L, (0 : Int)) else ([], er)) = ([], er))) := ⟨fun q => if_pos q, fun q => if_neg q⟩
  simp only
  generalize (if er = 0 then (L, (0 : Int)) else ([], er)) = av at *
  go_enter Tryz.func24, Tryz.ntmps24
  go_wp2_with (first
    | (refine wpList_load_rowg (by rfl) 46 _ (by rfl) (w.heap.size) (by rfl) 46 (trC h R) (0, 0) _ (by exact t1) Tryz.underlying46 (by rfl) (sizeTr.trans (by rw [trC_size])) ?_; simp only [Act.put, List.setIfInBounds_toArray, List.set_cons_zero, List.set_cons_succ])
    | fail)
  refine HEc.out.mono ?_
  rintro e w2 ⟨rfl, hst⟩
  obtain ⟨U2, z2, hs2, hn2, hf2⟩ := hst
  have HST : Hid (TD w2 B g N F c m room (i + 10922) U2 ∧ Turns U w w2 ∧ (∀ x, U2 x → U x ∨ w.heap.size ≤ x) ∧ ∀ k, z2.ownBlock = some k → ¬ U2 k) := by
    refine ⟨hs2.td, (Turns.of_below (S := U) HB1.out).trans hn2 fun b q => q.imp id fun q => by have := HZ.out b q; omega, fun b q => ?_, fun k q => hs2.ap k (.inr q)⟩
    rcases hf2 b (.inl q) with (u | u) | u
    · exact .inl u
    · exact .inr (by have := HZ.out b u; omega)
    · exact .inr (Nat.le_trans HB1.out.size u)
  have HP2 : Hid (PB w2 (w.heap.size + 1) w.heap.size z2 L) := hs2.q.1
  have c2 : w2.cell? ⟨w.heap.size + 1, 0, none⟩ = some z2 := (HP2.out.1.cell 0).trans rfl
  clear hs2 hn2 hf2 t1 HB1 HZ HEc
  by_cases he : er = 0
  · subst he
    have e1 := HAL.out.1 rfl
    subst e1
    go_wp2_with fail
    go_ret2
    exact ⟨z2, rfl, HP2.out.2.1, U2, HST.out⟩
  · have e1 := HAL.out.2 he
    subst e1
    have hne2 : (er != 0) = true := by simp [he]
    have hne3 : decide (er = 0) = false := decide_eq_false he
    go_wp2_with fail
    go_ret2
    exact ⟨_, rfl, ⟨rfl, .inl ⟨rfl, rfl⟩⟩, U2, HST.out.1, HST.out.2.1, HST.out.2.2.1, fun k q => by simp [Value.ownBlock] at q⟩
set_option maxRecDepth 100000 in
set_option maxHeartbeats 8000000 in
theorem count9_any (h : Int) (R : Rf) (hR : R.1 < 4294967296) (hD : okD R.2) (hF : ∀ a, F a < 256) (hi : i < 34359700000) (w : World) (H : TD w B g N F c m room i U) : Calls Tryz.prog 25 #[.pointer (some ⟨c, 0, none⟩), .agg (trC h R)] w fun e w' => e = .returned (.tuple #[.int .i64 ((cntV F N h R).1 : Int), .int .i64 ((cntV F N h R).2 : Int), .int .i64 (evR F N h R).2]) ∧ TDStep w w' B g N F c m room (i + 10922) U := by
  have hb1 : Below w.heap.size w (((w.alloc (.cells (trC h R) 46)).alloc (.cells #[.int .i64 0] 3)).alloc (.cells #[.int .i64 0] 3)) := below_new3 _ _ _ _
  have t1 : Blk (((w.alloc (.cells (trC h R) 46)).alloc (.cells #[.int .i64 0] 3)).alloc (.cells #[.int .i64 0] 3)) w.heap.size 46 (trC h R) := ((Blk.new _ _ _).alloc _).alloc _
  have HB1 : Hid (Below w.heap.size w (((w.alloc (.cells (trC h R) 46)).alloc (.cells #[.int .i64 0] 3)).alloc (.cells #[.int .i64 0] 3))) := hb1
  have HW1 : WS B g N F c m room (ftC (w.heap.size + 1) (w.heap.size + 2)) (QC (w.heap.size + 1) (w.heap.size + 2)) (fun s => s.1 + s.2) (((w.alloc (.cells (trC h R) 46)).alloc (.cells #[.int .i64 0] 3)).alloc (.cells #[.int .i64 0] 3)) i U (0, 0) () := by
    have hl : Blk (((w.alloc (.cells (trC h R) 46)).alloc (.cells #[.int .i64 0] 3)).alloc (.cells #[.int .i64 0] 3)) (w.heap.size + 1) 3 #[.int .i64 0] := (Blk.new1 _ _ _ _).alloc _
    have hn : Blk (((w.alloc (.cells (trC h R) 46)).alloc (.cells #[.int .i64 0] 3)).alloc (.cells #[.int .i64 0] 3)) (w.heap.size + 2) 3 #[.int .i64 0] := Blk.new2 _ _ _ _ _
    refine ⟨H.below hb1, ⟨hl, hn, by omega⟩, fun b q u => ?_, Nat.zero_le _, fun b q => ?_⟩
    · have h2 := (H.lt b u).2
      rcases q with q | q <;> omega
    · rcases q with q | q
      · rw [q]; exact hl.lt
      · rw [q]; exact hn.lt
  have HEc : Hid (Calls Tryz.prog 28 #[.pointer (some ⟨c, 0, none⟩), .agg (trC h R), .func (.func 57) #[] #[.pointer (some ⟨w.heap.size + 1, 0, none⟩), .pointer (some ⟨w.heap.size + 2, 0, none⟩)]] (((w.alloc (.cells (trC h R) 46)).alloc (.cells #[.int .i64 0] 3)).alloc (.cells #[.int .i64 0] 3)) fun e w' => e = .returned (.int .i64 (eachR F N (fun s l p R => (cntG s (l, p, R), true)) h R (0, 0)).2) ∧ WSt B g N F c m room (ftC (w.heap.size + 1) (w.heap.size + 2)) (QC (w.heap.size + 1) (w.heap.size + 2)) (fun s => s.1 + s.2) (((w.alloc (.cells (trC h R) 46)).alloc (.cells #[.int .i64 0] 3)).alloc (.cells #[.int .i64 0] 3)) w' (i + 10922) U () (eachR F N (fun s l p R => (cntG s (l, p, R), true)) h R (0, 0)).1.2) := each9_any (fun args w => rfl) (count1_dk (w.heap.size + 1) (w.heap.size + 2)) h R hR hD hF (0, 0) () hi _ HW1
  rw [each_fold (gf := cntG) (fun s l p R => rfl)] at HEc
  unfold cntV
  generalize evR F N h R = ev at *
  obtain ⟨L, er⟩ := ev
  clear HW1 H hR hD hF hi hb1
  simp only at HEc ⊢
  generalize L.foldl cntG (0, 0) = cv at *
  obtain ⟨x, y⟩ := cv
  obtain ⟨x', y', hxy⟩ : ∃ x' y', (if er = 0 then (x, y) else (0, 0)) = ((x', y') : Nat × Nat) := ⟨_, _, rfl⟩
  rw [hxy]
  have HXY : Hid ((if er = 0 then (x, y) else (0, 0)) = ((x', y') : Nat × Nat)) := hxy
  clear hxy
  go_enter Tryz.func25, Tryz.ntmps25
  go_wp2_with (first
    | (refine wpList_load_rowg (by rfl) 46 _ (by rfl) (w.heap.size) (by rfl) 46 (trC h R) (0, 0) _ (by exact t1) Tryz.underlying46 (by rfl) (sizeTr.trans (by rw [trC_size])) ?_; simp only [Act.put, List.setIfInBounds_toArray, List.set_cons_zero, List.set_cons_succ])
    | fail)
  refine HEc.out.mono ?_
  rintro e w2 ⟨rfl, hst⟩
  have HST : Hid (TDStep w w2 B g N F c m room (i + 10922) U) := step_of HB1.out (fun b q => by rcases q with q | q <;> omega) hst
  obtain ⟨U2, z2, hs2, _, _⟩ := hst
  have c2 : w2.cell? ⟨w.heap.size + 1, 0, none⟩ = some (.int .i64 (x : Int)) := (hs2.q.1.cell 0).trans rfl
  have c3 : w2.cell? ⟨w.heap.size + 2, 0, none⟩ = some (.int .i64 (y : Int)) := (hs2.q.2.1.cell 0).trans rfl
  clear hs2 t1 HB1 HEc
  by_cases he : er = 0
  · subst he
    obtain ⟨rfl, rfl⟩ : x = x' ∧ y = y' := by
      have := HXY.out
      simpa using this
    go_wp2_with fail
    go_quiet (fail)
    go_wp2_with fail
    go_ret3
    refine ⟨rfl, ?_⟩
    obtain ⟨V, h1, h2, h3⟩ := HST.out
    exact ⟨V, h1.below (below_drewN (Below.refl _ _) _), h2.trans (Turns.of_below (S := U) (below_drewN (Below.refl _ _) _)) fun b q => .inl q, h3⟩
  · obtain ⟨rfl, rfl⟩ : 0 = x' ∧ 0 = y' := by
      have := HXY.out
      rw [if_neg he] at this
      exact Prod.mk.inj this
    have hne2 : (er != 0) = true := by simp [he]
    have hne3 : decide (er = 0) = false := decide_eq_false he
    go_wp2_with fail
    go_ret3
    exact ⟨rfl, HST.out⟩
set_option maxRecDepth 100000 in
set_option maxHeartbeats 8000000 in
theorem last9_any (h : Int) (R : Rf) (hR : R.1 < 4294967296) (hD : okD R.2) (hF : ∀ a, F a < 256) (hi : i < 34359700000) (w : World) (H : TD w B g N F c m room i U) : Calls Tryz.prog 26 #[.pointer (some ⟨c, 0, none⟩), .agg (trC h R)] w fun e w' => e = .returned (.tuple #[.int .i64 (lstV F N h R), .int .i64 (evR F N h R).2]) ∧ TDStep w w' B g N F c m room (i + 10922) U := by
  have hb1 : Below w.heap.size w ((w.alloc (.cells (trC h R) 46)).alloc (.cells #[.int .i64 (-1)] 3)) := below_new2 _ _ _
  have t1 : Blk ((w.alloc (.cells (trC h R) 46)).alloc (.cells #[.int .i64 (-1)] 3)) w.heap.size 46 (trC h R) := (Blk.new _ _ _).alloc _
  have HB1 : Hid (Below w.heap.size w ((w.alloc (.cells (trC h R) 46)).alloc (.cells #[.int .i64 (-1)] 3))) := hb1
  have HW1 : WS B g N F c m room (ftL (w.heap.size + 1)) (QL (w.heap.size + 1)) (fun _ => 0) ((w.alloc (.cells (trC h R) 46)).alloc (.cells #[.int .i64 (-1)] 3)) i U (-1) () := by
    have hl : Blk ((w.alloc (.cells (trC h R) 46)).alloc (.cells #[.int .i64 (-1)] 3)) (w.heap.size + 1) 3 #[.int .i64 (-1)] := Blk.new1 _ _ _ _
    refine ⟨H.below hb1, hl, fun b q u => ?_, Nat.zero_le _, fun b q => ?_⟩
    · have h2 := (H.lt b u).2
      have q : b = w.heap.size + 1 := q
      omega
    · have q : b = w.heap.size + 1 := q
      rw [q]; exact hl.lt
  have HEc : Hid (Calls Tryz.prog 28 #[.pointer (some ⟨c, 0, none⟩), .agg (trC h R), .func (.func 58) #[] #[.pointer (some ⟨w.heap.size + 1, 0, none⟩)]] ((w.alloc (.cells (trC h R) 46)).alloc (.cells #[.int .i64 (-1)] 3)) fun e w' => e = .returned (.int .i64 (eachR F N (fun s l p R => (lstG s (l, p, R), true)) h R (-1)).2) ∧ WSt B g N F c m room (ftL (w.heap.size + 1)) (QL (w.heap.size + 1)) (fun _ => 0) ((w.alloc (.cells (trC h R) 46)).alloc (.cells #[.int .i64 (-1)] 3)) w' (i + 10922) U () (eachR F N (fun s l p R => (lstG s (l, p, R), true)) h R (-1)).1.2) := each9_any (fun args w => rfl) (last1_dk (w.heap.size + 1)) h R hR hD hF (-1) () hi _ HW1
  rw [each_fold (gf := lstG) (fun s l p R => rfl)] at HEc
  unfold lstV
  generalize evR F N h R = ev at *
  obtain ⟨L, er⟩ := ev
  clear HW1 H hR hD hF hi hb1
  simp only at HEc ⊢
  generalize L.foldl lstG (-1) = x at *
  obtain ⟨x', hxy⟩ : ∃ x', (if er = 0 then x else 0) = x' := ⟨_, rfl⟩
  rw [hxy]
  have HXY : Hid ((if er = 0 then x else 0) = x') := hxy
  clear hxy
  go_enter Tryz.func26, Tryz.ntmps26
  go_wp2_with (first
    | (refine wpList_load_rowg (by rfl) 46 _ (by rfl) (w.heap.size) (by rfl) 46 (trC h R) (0, 0) _ (by exact t1) Tryz.underlying46 (by rfl) (sizeTr.trans (by rw [trC_size])) ?_; simp only [Act.put, List.setIfInBounds_toArray, List.set_cons_zero, List.set_cons_succ])
    | fail)
  refine HEc.out.mono ?_
  rintro e w2 ⟨rfl, hst⟩
  have HST : Hid (TDStep w w2 B g N F c m room (i + 10922) U) := step_of HB1.out (fun b q => by have q : b = w.heap.size + 1 := q; omega) hst
  obtain ⟨U2, z2, hs2, _, _⟩ := hst
  have hq2 : Blk w2 (w.heap.size + 1) 3 #[.int .i64 x] := hs2.q
  have c2 : w2.cell? ⟨w.heap.size + 1, 0, none⟩ = some (.int .i64 x) := (hq2.cell 0).trans rfl
  clear hs2 t1 HB1 HEc hq2
  by_cases he : er = 0
  · subst he
    obtain rfl : x = x' := by
      have := HXY.out
      simpa using this
    go_wp2_with fail
    go_ret2
    exact ⟨rfl, HST.out⟩
  · obtain rfl : 0 = x' := by
      have := HXY.out
      rw [if_neg he] at this
      exact this
    have hne2 : (er != 0) = true := by simp [he]
    have hne3 : decide (er = 0) = false := decide_eq_false he
    go_wp2_with fail
    go_ret2
    exact ⟨rfl, HST.out⟩
end
end Go.Proofs.YtjhabngibbmpbaaGreat
