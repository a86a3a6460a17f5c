/- A digest asked of a log: the program's contract. -/
import Derived.Test.YtimjggkdpmgpjaaGreatDoorHInsMap
import Derived.Handy
import Derived.Deep.MidRow
import Derived.Deep.DeepCutAuto
import Derived.Deep.Cut
import Derived.Test.YtimjggkdpmgpjaaGreatDoorHMath
import Derived.Test.YtimjggkdpmgpjaaGreatDoorHCollKit
import Derived.Test.YtimjggkdpmgpjaaGreatDoorHBytes
import Derived.Maps.AppendAt
import Derived.Deep.RegionLaw
import Derived.WalkSmall
import Derived.Deep.Heap

namespace Go.Proofs.YtimjggkdpmgpjaaGreatDoor
theorem sgLHLogOf : (∀ (α : Type) (a : α) (l r : List α), (a :: l) ++ r = a :: (l ++ r)) ∧ (∀ (α : Type) (l : List α), [] ++ l = l) ∧ (∀ (α : Type) (l : List α), l ++ [] = l) ∧ (∀ (α β : Type) (f : α → Option β) (a : α) (l : List α), (a :: l).filterMap f = match f a with | none => l.filterMap f | some b => b :: l.filterMap f) ∧ (∀ (α β : Type) (f : α → Option β), [].filterMap f = []) ∧ (∀ (α : Type) (l : List α) (i : Nat), l.toArray[i]? = l[i]?) ∧ (∀ (α : Type) (a : α) (l : List α), (a :: l)[0]? = some a) ∧ (∀ (α : Type) (a : α) (l : List α) (i : Nat), (a :: l)[i + 1]? = l[i]?) :=
  ⟨fun _ _ _ _ => List.cons_append, fun _ _ => List.nil_append _, fun _ _ => List.append_nil _, fun _ _ _ _ _ => List.filterMap_cons, fun _ _ _ => List.filterMap_nil, fun _ _ _ => List.getElem?_toArray, fun _ _ _ => List.getElem?_cons_zero, fun _ _ _ _ => List.getElem?_cons_succ⟩
theorem sgPHLogOf : (∀ (α : Type) (l : List α) (i : Nat) (a : α), l.toArray.setIfInBounds i a = (l.set i a).toArray) ∧ (∀ (α : Type) (a b : α) (l : List α), (a :: l).set 0 b = b :: l) ∧ (∀ (α : Type) (a b : α) (l : List α) (i : Nat), (a :: l).set (i + 1) b = a :: l.set i b) :=
  ⟨fun _ _ _ _ => List.setIfInBounds_toArray _ _ _, fun _ _ _ _ => List.set_cons_zero, fun _ _ _ _ _ => List.set_cons_succ⟩
end Go.Proofs.YtimjggkdpmgpjaaGreatDoor
namespace Go.Proofs.YtimjggkdpmgpjaaGreatDoor
open Go Go.RowKit
set_option linter.unusedSimpArgs false
set_option linter.unusedVariables false
theorem pk_bits (k : Int × Int × Int) : Instr.sameBits 10000 (pkV k) (pkV k) = true := by
  unfold pkV
  rw [show (10000 : Nat) = 9998 + 1 + 1 from rfl, Instr.sameBits]
  simp [Instr.sameBits]
section
variable {x : Nat} {cp : Option Addr} {h : Int} {R : Rf} {high top : Int} {mf ml mc : Nat} {M : Int × Int × Int → Option (Nat → Hd)}
theorem look_fourF {w : World} (H : MapFn pkV ftV w mf M) (k : Int × Int × Int) (q : Nat → Hd) (hn : ((M k).map ftV).getD (ftV ft00) = ftV q) : (Instr.lookup 132 (.map (some mf)) (pkV k) false).run Tryz.prog w = .ok (.agg (ftC q)) w := by
  have := H.look Tryz.underlying132 pk_key (z := ftV ft00) (fun w => zero_ft w) k false
  rw [hn] at this
  exact this
set_option maxRecDepth 100000 in
set_option maxHeartbeats 4000000 in
theorem putI_any (n : Int) (h1 : 1 ≤ n) (h2 : n ≤ 4096) (y : Hd) (q : Nat → Hd) (w : World) (hx : Blk w x 136 (ixC cp h R high top mf ml mc)) (hm : MapFn pkV ftV w mf M) (hne : x ≠ mf) (hn : ((M (0, 0, (n - 1) / 4)).map ftV).getD (ftV ft00) = ftV q) : Calls Tryz.prog 45 #[.pointer (some ⟨x, 0, none⟩), .int .i64 n, .agg (hdC y)] w fun e w' => e = .returned (.tuple #[]) ∧ MapFn pkV ftV w' mf (fun b => if b = (0, 0, (n - 1) / 4) then some (ftU q ((n - 1) % 4).toNat y) else M b) ∧ Keeps mf w w' := by
  have hz := zero_ft
  have HPL := place_any n ⟨by omega, by omega⟩ (w.alloc (.cells (hdC y) 140))
  rw [if_pos ⟨h1, h2⟩] at HPL
  have HLK : Hid (∀ W, MapFn pkV ftV W mf M → (Instr.lookup 132 (.map (some mf)) (.agg #[.int .i64 0, .int .i64 0, .int .i64 ((n - 1) / 4)]) false).run Tryz.prog W = .ok (.agg (ftC q)) W) := fun W hW => look_fourF hW _ q hn
  obtain ⟨pn, hpn, hp4⟩ : ∃ pn : Nat, (n - 1) % 4 = (pn : Int) ∧ pn < 4 := ⟨((n - 1) % 4).toNat, by omega, by omega⟩
  rw [hpn] at HPL ⊢
  have hpt : ((pn : Int)).toNat = pn := rfl
  rw [hpt]
  have HUP : Hid (∀ W, MapFn pkV ftV W mf M → ∃ W', (Instr.mapUpdate 132 (.map (some mf)) (.agg #[.int .i64 0, .int .i64 0, .int .i64 ((n - 1) / 4)]) (.agg (ftC (ftU q pn y)))).run Tryz.prog W = .ok () W' ∧ MapFn pkV ftV W' mf (fun b => if b = (0, 0, (n - 1) / 4) then some (ftU q pn y) else M b) ∧ Keeps mf W W') := fun W hW => hW.put Tryz.underlying132 pk_key (0, 0, (n - 1) / 4) (pk_bits _) (ftU q pn y)
  have hb1 : Below w.heap.size w (w.alloc (.cells (hdC y) 140)) := below_new1 _ _
  have r1 : Blk (w.alloc (.cells (hdC y) 140)) w.heap.size 140 (hdC y) := Blk.new _ _ _
  have HX1 : Hid (Blk (w.alloc (.cells (hdC y) 140)) x 136 (ixC cp h R high top mf ml mc)) := hx.below hb1 hx.lt
  have HM1 : Hid (MapFn pkV ftV (w.alloc (.cells (hdC y) 140)) mf M) := hm.below hb1 hm.lt
  have HML : Hid (mf < w.heap.size ∧ x < w.heap.size ∧ x ≠ mf) := ⟨hm.lt, hx.lt, hne⟩
  have p0 : (0 : Int) ≤ (pn : Int) := by omega
  have p1 : (pn : Int) < 4 := by omega
  clear hx hm hn hpt hpn h1 h2
  go_enter Tryz.func45, Tryz.ntmps45
  go_wp2_with fail
  generalize (w.alloc (.cells (hdC y) 140)) = w1 at *
  refine HPL.mono ?_
  rintro e _ ⟨rfl, rfl⟩
  go_wp2_with fail
  refine (leafAt_any 0 ((n - 1) / 4) _).mono ?_
  rintro e w2 ⟨rfl, hb2⟩
  unfold pkV
  have W2 : Below w2.heap.size w2 (w2.alloc (.cells #[.int .i64 0, .int .i64 0, .int .i64 ((n - 1) / 4)] 188)) := below_new1 _ _
  have p3 : Blk (w2.alloc (.cells #[.int .i64 0, .int .i64 0, .int .i64 ((n - 1) / 4)] 188)) w2.heap.size 188 #[.int .i64 0, .int .i64 0, .int .i64 ((n - 1) / 4)] := Blk.new _ _ _
  have hb23 := hb2.trans (W2.mono hb2.size)
  have x3 := HX1.out.below hb23 HX1.out.lt
  have m3 := HM1.out.below hb23 HM1.out.lt
  have r3 := r1.below hb23 r1.lt
  have HB3 : Hid (Below w.heap.size w (w2.alloc (.cells #[.int .i64 0, .int .i64 0, .int .i64 ((n - 1) / 4)] 188)) ∧ w.heap.size < (w2.alloc (.cells #[.int .i64 0, .int .i64 0, .int .i64 ((n - 1) / 4)] 188)).heap.size) := ⟨hb1.trans (hb23.mono hb1.size), r3.lt⟩
  clear hb2 W2 hb23 hb1 HX1 HM1 r1 HPL
  go_wp2_with fail
  generalize (w2.alloc (.cells #[.int .i64 0, .int .i64 0, .int .i64 ((n - 1) / 4)] 188)) = w3 at *
  have hS0 : Blk w3.drew x 136 (ixC cp h R high top mf ml mc) ∧ Blk w3.drew w2.heap.size 188 #[.int .i64 0, .int .i64 0, .int .i64 ((n - 1) / 4)] ∧ MapFn pkV ftV w3.drew mf M := ⟨x3, p3, m3⟩
  have r3d : Blk w3.drew w.heap.size 140 (hdC y) := r3
  have HB3d : Hid (Below w.heap.size w w3.drew ∧ w.heap.size < w3.drew.heap.size) := ⟨HB3.out.1.drew, HB3.out.2⟩
  clear x3 p3 m3 r3 HB3
  refine wp_region_partsS (fun W => Blk W x 136 (ixC cp h R high top mf ml mc) ∧ Blk W w2.heap.size 188 #[.int .i64 0, .int .i64 0, .int .i64 ((n - 1) / 4)] ∧ MapFn pkV ftV W mf M) [([0], 1, true), ([], 2, true), ([], 3, true), ([], 4, true), ([], 5, true), ([], 6, false), ([], 7, false)] [] [] (by kernel_rfl) (by kernel_rfl) hS0 (partsI_yield ?_)
  generalize w3.drew = w4 at *
  have q4 : Blk (w4.alloc (.cells (ftC ft00) 183)) w4.heap.size 183 (ftC ft00) := Blk.new _ _ _
  have q5 := q4.set (ftC q)
  have hb5 : Below w4.heap.size w4 ((w4.alloc (.cells (ftC ft00) 183)).setRow w4.heap.size (ftC q)) := below_setRow (below_new1 _ _) (Nat.le_refl _) _
  have r5 := r3d.below hb5 r3d.lt
  have HB5 : Hid (Below w.heap.size w ((w4.alloc (.cells (ftC ft00) 183)).setRow w4.heap.size (ftC q))) := HB3d.out.1.trans (hb5.mono HB3d.out.1.size)
  have hS1 : Blk (w4.alloc (.cells (ftC ft00) 183)) x 136 (ixC cp h R high top mf ml mc) ∧ Blk (w4.alloc (.cells (ftC ft00) 183)) w2.heap.size 188 #[.int .i64 0, .int .i64 0, .int .i64 ((n - 1) / 4)] ∧ MapFn pkV ftV (w4.alloc (.cells (ftC ft00) 183)) mf M := ⟨hS0.1.alloc _, hS0.2.1.alloc _, hS0.2.2.below (below_new1 _ _) (hS0.2.2.lt)⟩
  have hS2 : Blk ((w4.alloc (.cells (ftC ft00) 183)).setRow w4.heap.size (ftC q)) x 136 (ixC cp h R high top mf ml mc) ∧ Blk ((w4.alloc (.cells (ftC ft00) 183)).setRow w4.heap.size (ftC q)) w2.heap.size 188 #[.int .i64 0, .int .i64 0, .int .i64 ((n - 1) / 4)] ∧ MapFn pkV ftV ((w4.alloc (.cells (ftC ft00) 183)).setRow w4.heap.size (ftC q)) mf M := ⟨hS0.1.below hb5 hS0.1.lt, hS0.2.1.below hb5 hS0.2.1.lt, hS0.2.2.below hb5 (hS0.2.2.lt)⟩
  have HS2 : Hid (Blk ((w4.alloc (.cells (ftC ft00) 183)).setRow w4.heap.size (ftC q)) x 136 (ixC cp h R high top mf ml mc) ∧ Blk ((w4.alloc (.cells (ftC ft00) 183)).setRow w4.heap.size (ftC q)) w2.heap.size 188 #[.int .i64 0, .int .i64 0, .int .i64 ((n - 1) / 4)] ∧ MapFn pkV ftV ((w4.alloc (.cells (ftC ft00) 183)).setRow w4.heap.size (ftC q)) mf M) := hS2
  clear hb5
  simp only [sgLHLogOf]
  go_wp2_with fail
  refine ⟨rfl, _, .pointer (some ⟨x, 0, none⟩), rfl, Or.inl ⟨by rfl, fun W hW => by go_simp⟩, partsI_yield ?_⟩
  simp only [Act.put, sgPHLogOf]
  simp only [sgLHLogOf]
  go_wp2_with fail
  refine ⟨rfl, _, .pointer (some ⟨x, 37, none⟩), rfl, Or.inl ⟨by rfl, fun W hW => by go_simp⟩, partsI_yield ?_⟩
  simp only [Act.put, sgPHLogOf]
  simp only [sgLHLogOf]
  go_wp2_with fail
  refine ⟨rfl, _, .map (some mf), rfl, Or.inl ⟨by rfl, fun W hW => by have hW1 := ix_c37 hW.1; go_simp⟩, partsI_yield ?_⟩
  simp only [Act.put, sgPHLogOf]
  simp only [sgLHLogOf]
  go_wp2_with fail
  refine ⟨rfl, _, .agg #[.int .i64 0, .int .i64 0, .int .i64 ((n - 1) / 4)], rfl, Or.inl ⟨by rfl, fun W hW => by have hW0 : W.cell? ⟨w2.heap.size, 0, none⟩ = some (.int .i64 0) := (hW.2.1.cell 0).trans rfl; have hW1 : W.cell? ⟨w2.heap.size, 1, none⟩ = some (.int .i64 0) := (hW.2.1.cell 1).trans rfl; have hW2 : W.cell? ⟨w2.heap.size, 2, none⟩ = some (.int .i64 ((n - 1) / 4)) := (hW.2.1.cell 2).trans rfl; go_simp⟩, partsI_yield ?_⟩
  simp only [Act.put, sgPHLogOf]
  simp only [sgLHLogOf]
  go_wp2_with fail
  refine ⟨rfl, _, .agg (ftC q), rfl, Or.inl ⟨by rfl, fun W hW => by have hW1 := HLK.out W hW.2.2; go_simp⟩, partsI_force ?_⟩
  simp only [Act.put, sgPHLogOf]
  simp only [sgLHLogOf]
  go_wp2_with fail
  refine ⟨rfl, hS1, partsI_force ?_⟩
  simp only [sgLHLogOf]
  (refine wpList_store_row (by rfl) 183 _ _ (by rfl) (w4.heap.size) (ftC q) (by rfl) (by rfl) 183 (ftC ft00) (by exact q4) (sizeFt.trans (by rw [ftC_size])) (by simp only [ftC_size]) (ftC_all _) ?_; simp only [Act.put, sgPHLogOf])
  go_wp2_with fail
  refine ⟨rfl, hS2, partsI_last ?_⟩
  simp only [sgLHLogOf]
  refine ⟨rfl, ?_⟩
  have HW4 : Hid (w.heap.size < w4.heap.size) := HB3d.out.2
  have HP4 : Hid (w2.heap.size < w4.heap.size ∧ mf < w4.heap.size ∧ x < w4.heap.size) := ⟨hS0.2.1.lt, hS0.2.2.lt, hS0.1.lt⟩
  clear hS0 hS1 hS2 HLK q4 HB3d r3d
  generalize ((w4.alloc (.cells (ftC ft00) 183)).setRow w4.heap.size (ftC q)) = w5 at *
  have htr : w5.there w4.heap.size (pn * 45) (hdC y).size := by
    rw [hdC_size]
    exact q5.there (pn * 45) 45 (by rw [ftC_size]; omega)
  have q6 := ft_put q5 pn hp4 y
  have hb6 : Below w4.heap.size w5 (w5.setCells w4.heap.size (pn * 45) (hdC y).toList) := below_setCells (Nat.le_refl _) _ _ _ (Below.refl _ _)
  have S6 : Blk (w5.setCells w4.heap.size (pn * 45) (hdC y).toList) x 136 (ixC cp h R high top mf ml mc) ∧ Blk (w5.setCells w4.heap.size (pn * 45) (hdC y).toList) w2.heap.size 188 #[.int .i64 0, .int .i64 0, .int .i64 ((n - 1) / 4)] ∧ MapFn pkV ftV (w5.setCells w4.heap.size (pn * 45) (hdC y).toList) mf M := ⟨HS2.out.1.below hb6 HP4.out.2.2, HS2.out.2.1.below hb6 HP4.out.1, HS2.out.2.2.below hb6 HP4.out.2.1⟩
  have HB6 : Hid (Below w.heap.size w (w5.setCells w4.heap.size (pn * 45) (hdC y).toList)) := HB5.out.trans (hb6.mono (Nat.le_of_lt HW4.out))
  clear hb6 HS2 HB5
  go_wp2_with (first
    | (refine wpList_load_rowg (by rfl) 140 _ (by rfl) (w.heap.size) (by rfl) 140 (hdC y) (0, 0) _ (by exact r5) Tryz.underlying140 (by rfl) (sizeHd.trans (by rw [hdC_size])) ?_; simp only [Act.put, sgPHLogOf])
    | (refine wpList_store_mid (by rfl) 140 _ _ (by rfl) w4.heap.size (pn * 45) (hdC y) (by rfl) (by rfl) (by exact htr) (by rw [hdC_size]; exact sizeHd) (hdC_all _) ?_; simp only [Act.put, sgPHLogOf])
    | fail)
  clear htr r5 q5
  generalize (w5.setCells w4.heap.size (pn * 45) (hdC y).toList) = w6 at *
  have q6d : Blk w6.drew w4.heap.size 183 (ftC (ftU q pn y)) := q6
  have hS6 : Blk w6.drew x 136 (ixC cp h R high top mf ml mc) ∧ Blk w6.drew w2.heap.size 188 #[.int .i64 0, .int .i64 0, .int .i64 ((n - 1) / 4)] ∧ MapFn pkV ftV w6.drew mf M := S6
  have HB6d : Hid (Below w.heap.size w w6.drew) := HB6.out.drew
  clear q6 S6 HB6
  refine wp_region_partsS (fun W => Blk W x 136 (ixC cp h R high top mf ml mc) ∧ Blk W w2.heap.size 188 #[.int .i64 0, .int .i64 0, .int .i64 ((n - 1) / 4)] ∧ MapFn pkV ftV W mf M) [([0], 1, true), ([], 2, true), ([], 3, true), ([], 4, true), ([], 5, false)] [] [6] (by kernel_rfl) (by kernel_rfl) hS6 (partsI_yield ?_)
  generalize w6.drew = w7 at *
  obtain ⟨w8, hup, hm8, hk8⟩ := HUP.out w7 hS6.2.2
  have HE : Hid (MapFn pkV ftV w8 mf (fun b => if b = (0, 0, (n - 1) / 4) then some (ftU q pn y) else M b) ∧ Keeps mf w w8) := ⟨hm8, (Keeps.of HB6d.out (Nat.le_of_lt HML.out.1)).trans hk8⟩
  clear hm8 hk8
  simp only [sgLHLogOf]
  go_wp2_with fail
  refine ⟨rfl, _, .pointer (some ⟨x, 0, none⟩), rfl, Or.inl ⟨by rfl, fun W hW => by go_simp⟩, partsI_yield ?_⟩
  simp only [Act.put, sgPHLogOf]
  simp only [sgLHLogOf]
  go_wp2_with fail
  refine ⟨rfl, _, .pointer (some ⟨x, 37, none⟩), rfl, Or.inl ⟨by rfl, fun W hW => by go_simp⟩, partsI_yield ?_⟩
  simp only [Act.put, sgPHLogOf]
  simp only [sgLHLogOf]
  go_wp2_with fail
  refine ⟨rfl, _, .map (some mf), rfl, Or.inl ⟨by rfl, fun W hW => by have hW1 := ix_c37 hW.1; go_simp⟩, partsI_yield ?_⟩
  simp only [Act.put, sgPHLogOf]
  simp only [sgLHLogOf]
  go_wp2_with fail
  refine ⟨rfl, _, .agg #[.int .i64 0, .int .i64 0, .int .i64 ((n - 1) / 4)], rfl, Or.inl ⟨by rfl, fun W hW => by have hW0 : W.cell? ⟨w2.heap.size, 0, none⟩ = some (.int .i64 0) := (hW.2.1.cell 0).trans rfl; have hW1 : W.cell? ⟨w2.heap.size, 1, none⟩ = some (.int .i64 0) := (hW.2.1.cell 1).trans rfl; have hW2 : W.cell? ⟨w2.heap.size, 2, none⟩ = some (.int .i64 ((n - 1) / 4)) := (hW.2.1.cell 2).trans rfl; go_simp⟩, partsI_force ?_⟩
  simp only [Act.put, sgPHLogOf]
  simp only [sgLHLogOf]
  (refine wpList_load_rowg (by rfl) 183 _ (by rfl) (w4.heap.size) (by rfl) 183 (ftC (ftU q pn y)) (0, 0) _ (by exact q6d) Tryz.underlying183 (by rfl) (sizeFt.trans (by rw [ftC_size])) ?_; simp only [Act.put, sgPHLogOf])
  go_wp2_with fail
  refine ⟨rfl, hS6, partsI_last ?_⟩
  simp only [sgLHLogOf]
  go_wp2_with fail
  refine ⟨rfl, ?_⟩
  go_wp2_with fail
  first
    | refine bodyPost_end (results_none Tryz.results45 _ _ _) rfl ?_
    | refine bodyPost_ret (results_none Tryz.results45 _ _ _) rfl ?_
  exact ⟨rfl, HE.out.1, HE.out.2⟩
end
end Go.Proofs.YtimjggkdpmgpjaaGreatDoor

namespace Go.Proofs.YtimjggkdpmgpjaaGreatDoor
open Go Go.RowKit
set_option linter.unusedSimpArgs false
set_option linter.unusedVariables false
theorem res_tct {P : Program} {fn : Func} {p u v : Tmp} {ty : TypeId} (h : fn.results = #[.tmp u, .cell p ty, .tmp v]) (tmps : Array Value) (w : World) (g : Nat) (t : TypeId) (cs : Array Value) (fr : Nat × Nat) (d : TypeDesc)
    (hp : tmps.getD p undef = .pointer (some ⟨g, 0, none⟩)) (hg : w.heap[g]? = some (.cells cs t fr))
    (hu : P.underlying ty = some d) (hd : (match d with | .struct _ | .array _ _ => true | _ => false) = true) (hi : (P.info? ty).map (·.size) = some cs.size) :
    (results fn tmps).run P w = .ok (.tuple #[tmps.getD u undef, .agg cs, tmps.getD v undef]) w := by
  have hp' : tmps[p]?.getD undef = .pointer (some ⟨g, 0, none⟩) := by simpa using hp
  simp [results, h, hp', asAddr, run_loadVar_row w g t ty cs fr d hg hu hd hi]
section
variable {x : Nat} {cp : Option Addr} {h : Int} {R : Rf} {high top : Int} {mf ml mc : Nat} {L : List ((Int × Int × Int) × (Nat → Hd))}
end
end Go.Proofs.YtimjggkdpmgpjaaGreatDoor

namespace Go.Proofs.YtimjggkdpmgpjaaGreatDoor
open Go Go.RowKit
set_option linter.unusedSimpArgs false
set_option linter.unusedVariables false
section
variable {x : Nat} {cp : Option Addr} {h : Int} {R : Rf} {high top : Int} {mf ml mc : Nat} {L : List ((Int × Int × Int) × (Nat → Hd))}
/-- an inode with what it is now -/
def hdN (y : Hd) (n k l s : Int) (t : Nat) : Hd := ⟨y.o, n, k, l, s, t, y.left, y.set⟩
theorem hd_putNow {w : World} {b t : Nat} {y : Hd} (H : Blk w b t (hdC y)) (n k l s : Int) (u : Nat) : Blk (w.setCells b 38 [.int .i64 n, .int .i64 k, .int .i64 l, .int .i64 s, .int .u64 ((u : Nat) : Int)]) b t (hdC (hdN y n k l s u)) := by
  have := Blk.cells_put (n := 45) [.int .i64 n, .int .i64 k, .int .i64 l, .int .i64 s, .int .u64 ((u : Nat) : Int)] 38 w (hdF y) H
  rw [show va 45 (over (hdF y) 38 [.int .i64 n, .int .i64 k, .int .i64 l, .int .i64 s, .int .u64 ((u : Nat) : Int)]) = hdC (hdN y n k l s u) from va_congr fun i hi => ?_] at this
  · exact this
  · unfold over
    by_cases hj : 38 ≤ i ∧ i < 38 + [Value.int .i64 n, .int .i64 k, .int .i64 l, .int .i64 s, .int .u64 ((u : Nat) : Int)].length
    · rw [if_pos hj]
      have hj2 : i < 43 := hj.2
      unfold hdF nwF hdN
      rw [if_neg (by omega), if_pos hj2]
      obtain ⟨d, rfl⟩ : ∃ d, i = 38 + d := ⟨i - 38, by omega⟩
      rw [show 38 + d - 38 = d by omega]
      match d, (show d < 5 by omega) with
      | 0, _ => rfl
      | 1, _ => rfl
      | 2, _ => rfl
      | 3, _ => rfl
      | 4, _ => rfl
    · rw [if_neg hj]
      have hj2 : ¬ (38 ≤ i ∧ i < 43) := hj
      unfold hdF hdN
      by_cases h1 : i < 38
      · rw [if_pos h1, if_pos h1]
      · have h2 : ¬ i < 43 := fun h => hj2 ⟨by omega, h⟩
        rw [if_neg h1, if_neg h1, if_neg h2, if_neg h2]
set_option maxRecDepth 100000 in
set_option maxHeartbeats 4000000 in
theorem used_ok (n : Int) (h1 : 1 ≤ n) (h2 : n ≤ 4096) (q : Nat → Hd) (hq : (q ((n - 1) % 4).toNat).k ≠ 0) (w : World) (HF : ∀ V, Below w.heap.size w V → Calls Tryz.prog 72 #[.pointer (some ⟨x, 0, none⟩), .int .i64 ((n - 1) / 4)] V fun e w' => e = .returned (.tuple #[.agg (ftC q), .int .i64 0]) ∧ Below V.heap.size V w') : Calls Tryz.prog 66 #[.pointer (some ⟨x, 0, none⟩), .int .i64 n] w fun e w' => e = .returned (.tuple #[.agg (hdC (q ((n - 1) % 4).toNat)), .int .i64 0]) ∧ Below w.heap.size w w' := by
  have hz := zero_ft
  have hz2 := zero_hd
  have HWR := wrong_ok x n h1 h2
  have HPL : Hid (∀ V : World, Calls Tryz.prog 75 #[.int .i64 n] V fun e w' => e = .returned (.tuple #[.int .i64 ((n - 1) / 4), .int .i64 ((n - 1) % 4), .int .i64 0]) ∧ w' = V) := fun V => by
    have := place_any n ⟨by omega, by omega⟩ V
    rw [if_pos ⟨h1, h2⟩] at this
    exact this
  obtain ⟨pn, hpn, hp4⟩ : ∃ pn : Nat, (n - 1) % 4 = (pn : Int) ∧ pn < 4 := ⟨((n - 1) % 4).toNat, by omega, by omega⟩
  rw [hpn] at HPL hq ⊢
  have hpt : ((pn : Int)).toNat = pn := rfl
  rw [hpt] at hq ⊢
  have HWW : Hid (∀ w : World, Calls Tryz.prog 83 #[.pointer (some ⟨x, 0, none⟩), .int .i64 n] w fun e w' => e = .returned (.int .i64 0) ∧ w' = w) := HWR
  have HFF : Hid (∀ V, Below w.heap.size w V → Calls Tryz.prog 72 #[.pointer (some ⟨x, 0, none⟩), .int .i64 ((n - 1) / 4)] V fun e w' => e = .returned (.tuple #[.agg (ftC q), .int .i64 0]) ∧ Below V.heap.size V w') := HF
  have hb1 : Below w.heap.size w (w.alloc (.cells (hdC hd00) 140)) := below_new1 _ _
  have r1 : Blk (w.alloc (.cells (hdC hd00) 140)) w.heap.size 140 (hdC hd00) := Blk.new _ _ _
  have HIU : Hid (∀ w : World, Calls Tryz.prog 73 #[.agg (hdC (q pn))] w fun e w' => e = .returned (.bool true) ∧ Below w.heap.size w w') := fun w => by
    have := inUse_any (q pn) w
    rw [show ((q pn).k != 0) = true by simp [hq]] at this
    exact this
  have p0 : (0 : Int) ≤ (pn : Int) := by omega
  have p1 : (pn : Int) < 4 := by omega
  clear HF HWR hq hpn hpt h1 h2
  go_enter Tryz.func66, Tryz.ntmps66
  go_wp2_with fail
  have HF1 := HFF.out _ hb1
  generalize (w.alloc (.cells (hdC hd00) 140)) = w1 at *
  refine (HWW.out w1).mono ?_
  rintro e _ ⟨rfl, rfl⟩
  go_wp2_with fail
  refine (HPL.out _).mono ?_
  rintro e _ ⟨rfl, rfl⟩
  go_wp2_with fail
  refine HF1.mono ?_
  rintro e w2 ⟨rfl, hb2⟩
  have hb12 := hb1.trans (hb2.mono hb1.size)
  have r2 := r1.below hb2 r1.lt
  clear HF1 HFF hb2 hb1 r1 HWW HPL
  have f3 : Blk (w2.alloc (.cells (ftC ft00) 183)) w2.heap.size 183 (ftC ft00) := Blk.new _ _ _
  have f3' := f3.set (ftC q)
  have hb23 : Below w2.heap.size w2 ((w2.alloc (.cells (ftC ft00) 183)).setRow w2.heap.size (ftC q)) := below_setRow (below_new1 _ _) (Nat.le_refl _) _
  have r3 := r2.below hb23 r2.lt
  have HB3 : Hid (Below w.heap.size w ((w2.alloc (.cells (ftC ft00) 183)).setRow w2.heap.size (ftC q))) := hb12.trans (hb23.mono hb12.size)
  have HR3 : Hid (((w2.alloc (.cells (ftC ft00) 183)).setRow w2.heap.size (ftC q)).rangeAt w2.heap.size (pn * 45) ((List.range 45).map (hdF (q pn)))) := ft_range f3' pn hp4
  clear hb12 hb23 r2
  go_wp2_with (first
    | (refine wpList_store_row (by rfl) 183 _ _ (by rfl) (w2.heap.size) (ftC q) (by rfl) (by rfl) 183 (ftC ft00) (by exact f3) (sizeFt.trans (by rw [ftC_size])) (by simp only [ftC_size]) (ftC_all _) ?_; simp only [Act.put, sgPHLogOf])
    | (refine wpList_load_blk (by rfl) 140 _ (by rfl) (w2.heap.size) (pn * 45) 45 (hdF (q pn)) (by rfl) _ (by exact HR3.out) Tryz.underlying140 rfl sizeHd ?_; simp only [Act.put, sgPHLogOf])
    | fail)
  clear f3
  generalize ((w2.alloc (.cells (ftC ft00) 183)).setRow w2.heap.size (ftC q)) = w3 at *
  refine (HIU.out w3).mono ?_
  rintro e w4 ⟨rfl, hb4⟩
  have f4 := f3'.below hb4 f3'.lt
  have r4 := r3.below hb4 r3.lt
  have HR4 : Hid (w4.rangeAt w2.heap.size (pn * 45) ((List.range 45).map (hdF (q pn)))) := ft_range f4 pn hp4
  have HB4 : Hid (Below w.heap.size w w4) := HB3.out.trans (hb4.mono HB3.out.size)
  clear hb4 HB3 HR3 r3 f3' f4
  go_wp2_with (first
    | (refine wpList_load_blk (by rfl) 140 _ (by rfl) (w2.heap.size) (pn * 45) 45 (hdF (q pn)) (by rfl) _ (by exact HR4.out) Tryz.underlying140 rfl sizeHd ?_; simp only [Act.put, sgPHLogOf])
    | (refine wpList_store_row (by rfl) 140 _ _ (by rfl) (w.heap.size) (hdC (q pn)) (by rfl) (by rfl) 140 (_) (by exact r4) (sizeHd.trans (by rw [hdC_size])) (by simp only [hdC_size]) (hdC_all _) ?_; simp only [Act.put, sgPHLogOf])
    | fail)
  try simp only [Exit.inBlock, Exit.then]
  refine bodyPost_ret (results_row2 Tryz.results66 _ _ (w.heap.size) 140 (hdC (q pn)) (0, 0) _ rfl (r4.set _) Tryz.underlying140 rfl (sizeHd.trans (by rw [hdC_size]))) rfl ?_
  exact ⟨rfl, below_setRow HB4.out (Nat.le_refl _) _⟩
end
end Go.Proofs.YtimjggkdpmgpjaaGreatDoor

namespace Go.Proofs.YtimjggkdpmgpjaaGreatDoor
open Go Go.RowKit
set_option linter.unusedSimpArgs false
set_option linter.unusedVariables false
/-- a block as an element of a map -/
def bvV (f : Nat → Nat) : Value := .agg (va 256 (iv .u8 f))
/-- inodes by number: each as it is held; leaves by number and place -/
structure IM (w : World) (x mf ml mc : Nat) (cp : Option Addr) (top : Int) (H : Nat → Hd) (D : Nat → Nat → Nat → Nat) : Prop where
  ix : Blk w x 136 (ixC cp 0 rf0 0 top mf ml mc)
  fm : ∃ M, MapFn pkV ftV w mf M ∧ ∀ i : Nat, i < 1024 → ∀ p, p < 4 → (match M (0, 0, (i : Int)) with | some q => q p | none => hd00) = H (4 * i + p + 1)
  lm : ∃ M, MapFn pkV bvV w ml M ∧ ∀ n p j : Nat, j < 256 → (match M ((n : Int), 0, (p : Int)) with | some f => f j | none => 0) = D n p j
  cm : ∃ c, w.heap[mc]? = some (.map #[] c)
  ne : x ≠ mf ∧ x ≠ ml ∧ x ≠ mc ∧ mf ≠ ml ∧ mf ≠ mc ∧ ml ≠ mc
section
variable {w w' : World} {x mf ml mc : Nat} {cp : Option Addr} {top : Int} {H : Nat → Hd} {D : Nat → Nat → Nat → Nat}
theorem IM.lts (h : IM w x mf ml mc cp top H D) : x < w.heap.size ∧ mf < w.heap.size ∧ ml < w.heap.size ∧ mc < w.heap.size := by
  obtain ⟨M, h1, _⟩ := h.fm
  obtain ⟨M', h2, _⟩ := h.lm
  obtain ⟨c, hc⟩ := h.cm
  exact ⟨h.ix.lt, h1.lt, h2.lt, (Array.getElem?_eq_some_iff.1 hc).1⟩
theorem IM.keep (h : IM w x mf ml mc cp top H D) (h1 : w'.heap[x]? = w.heap[x]?) (h2 : w'.heap[mf]? = w.heap[mf]?) (h3 : w'.heap[ml]? = w.heap[ml]?) (h4 : w'.heap[mc]? = w.heap[mc]?) : IM w' x mf ml mc cp top H D := by
  obtain ⟨M, m1, m2⟩ := h.fm
  obtain ⟨M', l1, l2⟩ := h.lm
  obtain ⟨c, hc⟩ := h.cm
  exact ⟨h1.trans h.ix, ⟨M, m1.keep h2, m2⟩, ⟨M', l1.keep h3, l2⟩, ⟨c, h4.trans hc⟩, h.ne⟩
theorem IM.below (h : IM w x mf ml mc cp top H D) (hb : Below w.heap.size w w') : IM w' x mf ml mc cp top H D :=
  h.keep (hb.block _ h.lts.1) (hb.block _ h.lts.2.1) (hb.block _ h.lts.2.2.1) (hb.block _ h.lts.2.2.2)
theorem ftC_congr {q r : Nat → Hd} (h : ∀ p, p < 4 → q p = r p) : ftC q = ftC r := va_congr fun i hi => by
  unfold ftF
  rw [h _ (by omega)]
/-- the four inodes of a leaf of the table -/
def foH (H : Nat → Hd) (i : Nat) : Nat → Hd := fun p => H (4 * i + p + 1)
theorem IM.four (h : IM w x mf ml mc cp top H D) (i : Nat) (hi : i < 1024) : Calls Tryz.prog 72 #[.pointer (some ⟨x, 0, none⟩), .int .i64 (i : Int)] w fun e w' => e = .returned (.tuple #[.agg (ftC (foH H i)), .int .i64 0]) ∧ Below w.heap.size w w' := by
  obtain ⟨M, ⟨l, m1, m2, m3⟩, m4⟩ := h.fm
  have hm := m4 i hi
  cases hM : M (0, 0, (i : Int)) with
  | some q =>
    rw [hM] at hm
    rw [← ftC_congr (q := q) (r := foH H i) fun p hp => hm p hp]
    exact four_hit (i : Int) q w h.ix m1 (by rw [m3, hM]; rfl) (by rw [m3, hM]; rfl)
  | none =>
    rw [hM] at hm
    rw [← ftC_congr (q := ft00) (r := foH H i) fun p hp => hm p hp]
    exact four_new (i : Int) (by decide) (by decide) (by omega) ft00 w h.ix m1 (by rw [m3, hM]; rfl) (by rw [m3, hM]; rfl)
theorem foH_at (n : Nat) (h1 : 1 ≤ n) : foH H ((n - 1) / 4) (((n : Int) - 1) % 4).toNat = H n := by
  unfold foH
  congr 1
  omega
theorem IM.used (h : IM w x mf ml mc cp top H D) (n : Nat) (h1 : 1 ≤ n) (h2 : n ≤ 4096) (hk : (H n).k ≠ 0) : Calls Tryz.prog 66 #[.pointer (some ⟨x, 0, none⟩), .int .i64 (n : Int)] w fun e w' => e = .returned (.tuple #[.agg (hdC (H n)), .int .i64 0]) ∧ Below w.heap.size w w' := by
  have := used_ok (x := x) (n : Int) (by omega) (by omega) (foH H ((n - 1) / 4)) (by rw [foH_at n h1]; exact hk) w fun V hV => ?_
  · rw [foH_at n h1] at this
    exact this
  · have := (h.below hV).four ((n - 1) / 4) (by omega)
    rw [show (((n - 1) / 4 : Nat) : Int) = ((n : Int) - 1) / 4 by omega] at this
    exact this
/-- one inode another one -/
def hU (H : Nat → Hd) (n : Nat) (y : Hd) : Nat → Hd := fun m => if m = n then y else H m
theorem IM.put (h : IM w x mf ml mc cp top H D) (n : Nat) (h1 : 1 ≤ n) (h2 : n ≤ 4096) (y : Hd) : Calls Tryz.prog 45 #[.pointer (some ⟨x, 0, none⟩), .int .i64 (n : Int), .agg (hdC y)] w fun e w' => e = .returned (.tuple #[]) ∧ IM w' x mf ml mc cp top (hU H n y) D ∧ Keeps mf w w' := by
  obtain ⟨M, m1, m4⟩ := h.fm
  have hq : ∃ q : Nat → Hd, ((M (0, 0, ((n : Int) - 1) / 4)).map ftV).getD (ftV ft00) = ftV q ∧ ∀ p, p < 4 → q p = H (4 * ((n - 1) / 4) + p + 1) := by
    have hm := m4 ((n - 1) / 4) (by omega)
    rw [show (((n - 1) / 4 : Nat) : Int) = ((n : Int) - 1) / 4 by omega] at hm
    cases hM : M (0, 0, ((n : Int) - 1) / 4) with
    | some q =>
      rw [hM] at hm
      exact ⟨q, rfl, fun p hp => hm p hp⟩
    | none =>
      rw [hM] at hm
      exact ⟨ft00, rfl, fun p hp => hm p hp⟩
  obtain ⟨q, hq1, hq2⟩ := hq
  refine (putI_any (n : Int) (by omega) (by omega) y q w h.ix m1 h.ne.1 hq1).mono ?_
  rintro e w' ⟨rfl, hm', hk⟩
  have hl := h.lts
  have hnn := h.ne
  refine ⟨rfl, ⟨hk.blk h.ix hnn.1, ⟨_, hm', fun i hi p hp => ?_⟩, ?_, ?_, hnn⟩, hk⟩
  · by_cases e : (i : Int) = ((n : Int) - 1) / 4
    · rw [if_pos (by rw [e])]
      show ftU q (((n : Int) - 1) % 4).toNat y p = hU H n y (4 * i + p + 1)
      unfold ftU hU
      by_cases e2 : p = (((n : Int) - 1) % 4).toNat
      · rw [if_pos e2, if_pos (by omega)]
      · rw [if_neg e2, if_neg (by omega), hq2 p hp]
        congr 2
        omega
    · rw [if_neg (fun c => e (by injection c with _ c; injection c))]
      rw [m4 i hi p hp]
      unfold hU
      rw [if_neg (by omega)]
  · obtain ⟨M', l1, l2⟩ := h.lm
    exact ⟨M', l1.keep (hk.2 ml (Ne.symm hnn.2.2.2.1) hl.2.2.1), l2⟩
  · obtain ⟨c, hc⟩ := h.cm
    exact ⟨c, (hk.2 mc (Ne.symm hnn.2.2.2.2.1) hl.2.2.2).trans hc⟩
end
end Go.Proofs.YtimjggkdpmgpjaaGreatDoor

namespace Go.Proofs.YtimjggkdpmgpjaaGreatDoor
open Go Go.RowKit
set_option linter.unusedSimpArgs false
set_option linter.unusedVariables false
section
variable {w w' : World} {x mf ml mc : Nat} {cp : Option Addr} {top : Int} {H : Nat → Hd} {D : Nat → Nat → Nat → Nat}
theorem hd_c38 {w : World} {b t : Nat} {y : Hd} (H : Blk w b t (hdC y)) : w.cell? ⟨b, 38, none⟩ = some (.int .i64 y.n) := H.cv (n := 45) (by decide)
theorem hd_c43 {w : World} {b t : Nat} {y : Hd} (H : Blk w b t (hdC y)) : w.cell? ⟨b, 43, none⟩ = some (.int .i64 y.left) := H.cv (n := 45) (by decide)
set_option maxRecDepth 100000 in
set_option maxHeartbeats 8000000 in
theorem IM.leafOf (h : IM w x mf ml mc cp top H D) (n p : Nat) (y : Hd) (hy : y.n = (n : Int)) (hl : y.left ≤ (p : Int)) : Calls Tryz.prog 109 #[.pointer (some ⟨x, 0, none⟩), .agg (hdC y), .int .i64 (p : Int)] w fun e w' => e = .returned (.tuple #[.agg (va 256 (iv .u8 (D n p))), .int .i64 0]) ∧ Below w.heap.size w w' := by
  have hz := zero_bk
  obtain ⟨M, m1, m2⟩ := h.lm
  obtain ⟨b, hlk⟩ : ∃ b : Bool, ∀ W, MapFn pkV bvV W ml M → (Instr.lookup 133 (.map (some ml)) (.agg #[.int .i64 (n : Int), .int .i64 0, .int .i64 (p : Int)]) true).run Tryz.prog W = .ok (.tuple #[.agg (va 256 (iv .u8 (D n p))), .bool b]) W := by
    refine ⟨(M ((n : Int), 0, (p : Int))).isSome, fun W hW => ?_⟩
    have := hW.look Tryz.underlying133 pk_key (z := bvV fun _ => 0) (fun w => zero_bk w) ((n : Int), 0, (p : Int)) true
    have hd := m2 n p
    have e : ((M ((n : Int), 0, (p : Int))).map bvV).getD (bvV fun _ => 0) = .agg (va 256 (iv .u8 (D n p))) := by
      cases hM : M ((n : Int), 0, (p : Int)) with
      | some f =>
        rw [hM] at hd
        exact congrArg Value.agg (va_congr fun j hj => by
          show Value.int .u8 ((f j : Nat) : Int) = Value.int .u8 ((D n p j : Nat) : Int)
          rw [← hd j hj])
      | none =>
        rw [hM] at hd
        exact congrArg Value.agg (va_congr fun j hj => by
          show Value.int .u8 ((0 : Nat) : Int) = Value.int .u8 ((D n p j : Nat) : Int)
          rw [← hd j hj])
    rw [e] at this
    exact this
  have HLK : Hid (∀ W, MapFn pkV bvV W ml M → (Instr.lookup 133 (.map (some ml)) (.agg #[.int .i64 (n : Int), .int .i64 0, .int .i64 (p : Int)]) true).run Tryz.prog W = .ok (.tuple #[.agg (va 256 (iv .u8 (D n p))), .bool b]) W) := hlk
  have hb1 : Below w.heap.size w ((w.alloc (.cells (hdC y) 140)).alloc (.cells (va 256 (iv .u8 fun _ => 0)) 207)) := below_new2 _ _ _
  have y1 : Blk ((w.alloc (.cells (hdC y) 140)).alloc (.cells (va 256 (iv .u8 fun _ => 0)) 207)) w.heap.size 140 (hdC y) := (Blk.new _ _ _).alloc _
  have r1 : Blk ((w.alloc (.cells (hdC y) 140)).alloc (.cells (va 256 (iv .u8 fun _ => 0)) 207)) (w.heap.size + 1) 207 (va 256 (iv .u8 fun _ => 0)) := Blk.new1 _ _ _ _
  have x1 := h.ix.below hb1 h.ix.lt
  have l1 := m1.below hb1 m1.lt
  have HLA : Hid (∀ w : World, Calls Tryz.prog 76 #[.int .i64 (n : Int), .int .i64 (p : Int)] w fun e w' => e = .returned (.agg #[.int .i64 (n : Int), .int .i64 0, .int .i64 (p : Int)]) ∧ Below w.heap.size w w') := leafAt_any (n : Int) (p : Int)
  have HY : Hid (y.n = (n : Int) ∧ y.left ≤ (p : Int)) := ⟨hy, hl⟩
  clear h m1 m2 hlk hy hl
  go_enter Tryz.func109, Tryz.ntmps109
  go_wp2_with fail
  generalize ((w.alloc (.cells (hdC y) 140)).alloc (.cells (va 256 (iv .u8 fun _ => 0)) 207)) = w1 at *
  go_cut [8, 9] (fun v8 v9 wx => v9 = .bool b ∧ ∃ bx, v8 = .pointer (some ⟨bx, 0, none⟩) ∧ w1.heap.size ≤ bx ∧ Blk wx bx 207 (va 256 (iv .u8 (D n p))) ∧ Blk wx w.heap.size 140 (hdC y) ∧ Blk wx (w.heap.size + 1) 207 (va 256 (iv .u8 fun _ => 0)) ∧ Below w1.heap.size w1 wx)
  case first =>
    have hS0 : Blk w1.drew x 136 (ixC cp 0 rf0 0 top mf ml mc) ∧ Blk w1.drew w.heap.size 140 (hdC y) ∧ MapFn pkV bvV w1.drew ml M ∧ Blk w1.drew (w.heap.size + 1) 207 (va 256 (iv .u8 fun _ => 0)) := ⟨x1, y1, l1, r1⟩
    have hwd : Below w1.heap.size w1 w1.drew := (Below.refl _ _).drew
    have HWS : Hid (w1.drew.heap.size = w1.heap.size) := rfl
    refine wp_region_plan (fun W => Blk W x 136 (ixC cp 0 rf0 0 top mf ml mc) ∧ Blk W w.heap.size 140 (hdC y) ∧ MapFn pkV bvV W ml M ∧ Blk W (w.heap.size + 1) 207 (va 256 (iv .u8 fun _ => 0))) (.yield [0, 7] 1 (.yield [] 2 (.yield [] 3 (.yield [] 4 (.yield [] 5 (.yield [] 6 (.fork 8 13 (.yield [] 9 (.force [10, 11, 12] 13 (.force [] 14 (.fin [15])))) (.force [] 8 (.yield [] 9 (.force [10, 12] 11 (.force [] 14 (.fin [15])))))))))))) (by kernel_rfl) (by kernel_rfl) hS0 (plan_yield ?_)
    generalize w1.drew = wd at *
    simp only [sgLHLogOf]
    go_wp2_with fail
    refine ⟨rfl, _, .pointer (some ⟨x, 0, none⟩), rfl, Or.inl ⟨by rfl, fun W hW => by go_simp⟩, plan_yield ?_⟩
    simp only [Act.put, sgPHLogOf]
    simp only [sgLHLogOf]
    go_wp2_with fail
    refine ⟨rfl, _, .pointer (some ⟨x, 38, none⟩), rfl, Or.inl ⟨by rfl, fun W hW => by go_simp⟩, plan_yield ?_⟩
    simp only [Act.put, sgPHLogOf]
    simp only [sgLHLogOf]
    go_wp2_with fail
    refine ⟨rfl, _, .map (some ml), rfl, Or.inl ⟨by rfl, fun W hW => by have hW1 := ix_c38 hW.1; go_simp⟩, plan_yield ?_⟩
    simp only [Act.put, sgPHLogOf]
    simp only [sgLHLogOf]
    go_wp2_with fail
    refine ⟨rfl, _, .pointer (some ⟨w.heap.size, 38, none⟩), rfl, Or.inl ⟨by rfl, fun W hW => by go_simp⟩, plan_yield ?_⟩
    simp only [Act.put, sgPHLogOf]
    simp only [sgLHLogOf]
    go_wp2_with fail
    refine ⟨rfl, _, .pointer (some ⟨w.heap.size, 38, none⟩), rfl, Or.inl ⟨by rfl, fun W hW => by go_simp⟩, plan_yield ?_⟩
    simp only [Act.put, sgPHLogOf]
    simp only [sgLHLogOf]
    go_wp2_with fail
    refine ⟨rfl, _, .int .i64 (n : Int), rfl, Or.inl ⟨by rfl, fun W hW => by have hW1 := (hd_c38 hW.2.1).trans (by rw [HY.out.1]); go_simp⟩, plan_fork ?_ ?_⟩
    simp only [Act.put, sgPHLogOf]
    · simp only [sgLHLogOf]
      go_wp2_with fail
      refine (HLA.out _).mono ?_
      rintro e w2 ⟨rfl, hb2⟩
      have S2 : Blk w2 x 136 (ixC cp 0 rf0 0 top mf ml mc) ∧ Blk w2 w.heap.size 140 (hdC y) ∧ MapFn pkV bvV w2 ml M ∧ Blk w2 (w.heap.size + 1) 207 (va 256 (iv .u8 fun _ => 0)) := ⟨hS0.1.below hb2 hS0.1.lt, hS0.2.1.below hb2 hS0.2.1.lt, hS0.2.2.1.below hb2 hS0.2.2.1.lt, hS0.2.2.2.below hb2 hS0.2.2.2.lt⟩
      go_wp2_with fail
      refine ⟨rfl, S2, plan_yield ?_⟩
      simp only [sgLHLogOf]
      go_wp2_with fail
      refine ⟨rfl, _, .tuple #[.agg (va 256 (iv .u8 (D n p))), .bool b], rfl, Or.inl ⟨by rfl, fun W hW => by have hW1 := HLK.out W hW.2.2.1; go_simp⟩, plan_force ?_⟩
      simp only [Act.put, sgPHLogOf]
      simp only [sgLHLogOf]
      have q3 := Blk.new w2 207 (va 256 (iv .u8 fun _ => 0))
      have ha3 : Below w2.heap.size w2 (w2.alloc (.cells (va 256 (iv .u8 fun _ => 0)) 207)) := below_new1 _ _
      have S3 : Blk (w2.alloc (.cells (va 256 (iv .u8 fun _ => 0)) 207)) x 136 (ixC cp 0 rf0 0 top mf ml mc) ∧ Blk (w2.alloc (.cells (va 256 (iv .u8 fun _ => 0)) 207)) w.heap.size 140 (hdC y) ∧ MapFn pkV bvV (w2.alloc (.cells (va 256 (iv .u8 fun _ => 0)) 207)) ml M ∧ Blk (w2.alloc (.cells (va 256 (iv .u8 fun _ => 0)) 207)) (w.heap.size + 1) 207 (va 256 (iv .u8 fun _ => 0)) := ⟨S2.1.below ha3 S2.1.lt, S2.2.1.below ha3 S2.2.1.lt, S2.2.2.1.below ha3 S2.2.2.1.lt, S2.2.2.2.below ha3 S2.2.2.2.lt⟩
      go_wp2_with fail
      refine ⟨rfl, S3, plan_force ?_⟩
      simp only [sgLHLogOf]
      (refine wpList_store_row (by rfl) 207 _ _ (by rfl) (w2.heap.size) (va 256 (iv .u8 (D n p))) (by rfl) (by rfl) 207 (va 256 (iv .u8 fun _ => 0)) (by exact q3) (sizeBk.trans (by rw [va_size])) (by simp only [va_size]) (iv_one _ _ _) ?_; simp only [Act.put, sgPHLogOf])
      have hb4 : Below w2.heap.size w2 ((w2.alloc (.cells (va 256 (iv .u8 fun _ => 0)) 207)).setRow w2.heap.size (va 256 (iv .u8 (D n p)))) := below_setRow (below_new1 _ _) (Nat.le_refl _) _
      have S4 : Blk ((w2.alloc (.cells (va 256 (iv .u8 fun _ => 0)) 207)).setRow w2.heap.size (va 256 (iv .u8 (D n p)))) x 136 (ixC cp 0 rf0 0 top mf ml mc) ∧ Blk ((w2.alloc (.cells (va 256 (iv .u8 fun _ => 0)) 207)).setRow w2.heap.size (va 256 (iv .u8 (D n p)))) w.heap.size 140 (hdC y) ∧ MapFn pkV bvV ((w2.alloc (.cells (va 256 (iv .u8 fun _ => 0)) 207)).setRow w2.heap.size (va 256 (iv .u8 (D n p)))) ml M ∧ Blk ((w2.alloc (.cells (va 256 (iv .u8 fun _ => 0)) 207)).setRow w2.heap.size (va 256 (iv .u8 (D n p)))) (w.heap.size + 1) 207 (va 256 (iv .u8 fun _ => 0)) := ⟨S2.1.below hb4 S2.1.lt, S2.2.1.below hb4 S2.2.1.lt, S2.2.2.1.below hb4 S2.2.2.1.lt, S2.2.2.2.below hb4 S2.2.2.2.lt⟩
      go_wp2_with fail
      refine ⟨rfl, S4, plan_fin ?_⟩
      simp only [sgLHLogOf]
      go_wp2_with fail
      refine ⟨rfl, ?_⟩
      go_wp2_with fail
      go_meet
      have hws := HWS.out
      have hbx := hwd.trans (hb2.mono (B' := w1.heap.size) (by omega))
      exact ⟨rfl, w2.heap.size, rfl, hbx.size, q3.set _, S4.2.1, S4.2.2.2, hbx.trans (hb4.mono hbx.size)⟩
    · simp only [sgLHLogOf]
      have q2 := Blk.new wd 207 (va 256 (iv .u8 fun _ => 0))
      have ha2 : Below wd.heap.size wd (wd.alloc (.cells (va 256 (iv .u8 fun _ => 0)) 207)) := below_new1 _ _
      have S2 : Blk (wd.alloc (.cells (va 256 (iv .u8 fun _ => 0)) 207)) x 136 (ixC cp 0 rf0 0 top mf ml mc) ∧ Blk (wd.alloc (.cells (va 256 (iv .u8 fun _ => 0)) 207)) w.heap.size 140 (hdC y) ∧ MapFn pkV bvV (wd.alloc (.cells (va 256 (iv .u8 fun _ => 0)) 207)) ml M ∧ Blk (wd.alloc (.cells (va 256 (iv .u8 fun _ => 0)) 207)) (w.heap.size + 1) 207 (va 256 (iv .u8 fun _ => 0)) := ⟨hS0.1.below ha2 hS0.1.lt, hS0.2.1.below ha2 hS0.2.1.lt, hS0.2.2.1.below ha2 hS0.2.2.1.lt, hS0.2.2.2.below ha2 hS0.2.2.2.lt⟩
      go_wp2_with fail
      refine ⟨rfl, S2, plan_force ?_⟩
      simp only [sgLHLogOf]
      go_wp2_with fail
      refine (HLA.out _).mono ?_
      rintro e w3 ⟨rfl, hb3⟩
      have S3 : Blk w3 x 136 (ixC cp 0 rf0 0 top mf ml mc) ∧ Blk w3 w.heap.size 140 (hdC y) ∧ MapFn pkV bvV w3 ml M ∧ Blk w3 (w.heap.size + 1) 207 (va 256 (iv .u8 fun _ => 0)) := ⟨S2.1.below hb3 S2.1.lt, S2.2.1.below hb3 S2.2.1.lt, S2.2.2.1.below hb3 S2.2.2.1.lt, S2.2.2.2.below hb3 S2.2.2.2.lt⟩
      have q3 := q2.below hb3 q2.lt
      go_wp2_with fail
      refine ⟨rfl, S3, plan_yield ?_⟩
      simp only [sgLHLogOf]
      go_wp2_with fail
      refine ⟨rfl, _, .tuple #[.agg (va 256 (iv .u8 (D n p))), .bool b], rfl, Or.inl ⟨by rfl, fun W hW => by have hW1 := HLK.out W hW.2.2.1; go_simp⟩, plan_force ?_⟩
      simp only [Act.put, sgPHLogOf]
      simp only [sgLHLogOf]
      go_wp2_with fail
      refine ⟨rfl, S3, plan_force ?_⟩
      simp only [sgLHLogOf]
      (refine wpList_store_row (by rfl) 207 _ _ (by rfl) (wd.heap.size) (va 256 (iv .u8 (D n p))) (by rfl) (by rfl) 207 (va 256 (iv .u8 fun _ => 0)) (by exact q3) (sizeBk.trans (by rw [va_size])) (by simp only [va_size]) (iv_one _ _ _) ?_; simp only [Act.put, sgPHLogOf])
      have hb4 : Below wd.heap.size wd (w3.setRow wd.heap.size (va 256 (iv .u8 (D n p)))) := below_setRow (ha2.trans (hb3.mono ha2.size)) (Nat.le_refl _) _
      have S4 : Blk (w3.setRow wd.heap.size (va 256 (iv .u8 (D n p)))) x 136 (ixC cp 0 rf0 0 top mf ml mc) ∧ Blk (w3.setRow wd.heap.size (va 256 (iv .u8 (D n p)))) w.heap.size 140 (hdC y) ∧ MapFn pkV bvV (w3.setRow wd.heap.size (va 256 (iv .u8 (D n p)))) ml M ∧ Blk (w3.setRow wd.heap.size (va 256 (iv .u8 (D n p)))) (w.heap.size + 1) 207 (va 256 (iv .u8 fun _ => 0)) := ⟨hS0.1.below hb4 hS0.1.lt, hS0.2.1.below hb4 hS0.2.1.lt, hS0.2.2.1.below hb4 hS0.2.2.1.lt, hS0.2.2.2.below hb4 hS0.2.2.2.lt⟩
      go_wp2_with fail
      refine ⟨rfl, S4, plan_fin ?_⟩
      simp only [sgLHLogOf]
      go_wp2_with fail
      refine ⟨rfl, ?_⟩
      go_wp2_with fail
      go_meet
      have hws := HWS.out
      exact ⟨rfl, wd.heap.size, rfl, by omega, q3.set _, S4.2.1, S4.2.2.2, hwd.trans (hb4.mono (by omega))⟩
  case rest =>
    obtain ⟨rfl, bx, rfl, hge, q5, y5, r5, hb15⟩ := hcut
    have c43 := hd_c43 y5
    have hpl : y.left ≤ (p : Int) := HY.out.2
    have HB5 : Hid (Below w.heap.size w wc) := hb1.trans (hb15.mono hb1.size)
    clear hb15 hb1 x1 l1 y1 r1 HLA HLK
    generalize wc = w5 at *
    generalize y.left = lf at *
    cases b
    all_goals
      go_wp2_with (first
        | (refine wpList_load_rowg (by rfl) 207 _ (by rfl) (bx) (by rfl) 207 (va 256 (iv .u8 (D n p))) (0, 0) _ (by exact q5) Tryz.underlying207 (by rfl) (sizeBk.trans (by rw [va_size])) ?_; simp only [Act.put, sgPHLogOf])
        | (refine wpList_store_row (by rfl) 207 _ _ (by rfl) (w.heap.size + 1) (va 256 (iv .u8 (D n p))) (by rfl) (by rfl) 207 (_) (by exact r5) (sizeBk.trans (by rw [va_size])) (by simp only [va_size]) (iv_one _ _ _) ?_; simp only [Act.put, sgPHLogOf])
        | fail)
      try simp only [Exit.inBlock, Exit.then]
      refine bodyPost_ret (results_row2 Tryz.results109 _ _ (w.heap.size + 1) 207 (va 256 (iv .u8 (D n p))) (0, 0) _ rfl (r5.set _) Tryz.underlying207 rfl (sizeBk.trans (by rw [va_size]))) rfl ?_
      exact ⟨rfl, below_setRow HB5.out (by omega) _⟩
end
end Go.Proofs.YtimjggkdpmgpjaaGreatDoor

namespace Go.Proofs.YtimjggkdpmgpjaaGreatDoor
open Go Go.RowKit
set_option linter.unusedSimpArgs false
set_option linter.unusedVariables false

def vF (d : Vector Nat 256) : Nat → Nat := fun i => (d[i]?).getD 0
def bK (d : Vector Nat 256) : Value := .agg (va 256 (iv .u8 (vF d)))
end Go.Proofs.YtimjggkdpmgpjaaGreatDoor

namespace Go.Proofs.YtimjggkdpmgpjaaGreatDoor
open Go.RowKit
set_option linter.unusedSimpArgs false
set_option linter.unusedVariables false

/-- what a log may change: its own block, its map, its row -/
def LogKeeps (g r : Nat) (v : Value) (w w' : World) : Prop :=
  w'.os = w.os ∧ w'.tape = w.tape ∧ w'.output = w.output ∧ w.heap.size ≤ w'.heap.size ∧ ∀ k, k < w.heap.size → k ≠ g → k ≠ r → v.ownBlock ≠ some k → w'.heap[k]? = w.heap[k]?

theorem own_ne {w : World} {B e size n g t : Nat} {v : Value} {xs : List Value} {cs : Array Value} (h : w.ownsRow B e size v n xs) (hb : Blk w g t cs) (hne : e ≠ t) : v.ownBlock ≠ some g := fun hq => by
  rcases h.2 with ⟨rfl, _⟩ | ⟨b, cap, cur, rfl, _, hg, _⟩
  · simp [Value.ownBlock] at hq
  · simp [Value.ownBlock] at hq
    subst hq
    unfold Blk at hb
    rw [hb] at hg
    simp at hg
    exact hne hg.2.symm
theorem own_map {w : World} {B e size n r clock : Nat} {v : Value} {xs : List Value} {es : Array MapEntry} (h : w.ownsRow B e size v n xs) (hb : w.heap[r]? = some (.map es clock)) : v.ownBlock ≠ some r := fun hq => by
  rcases h.2 with ⟨rfl, _⟩ | ⟨b, cap, cur, rfl, _, hg, _⟩
  · simp [Value.ownBlock] at hq
  · simp [Value.ownBlock] at hq
    subst hq
    rw [hb] at hg
    cases hg
theorem own_block {w w' : World} {B e size n : Nat} {v : Value} {xs : List Value} (h : w.ownsRow B e size v n xs) (hk : ∀ k, v.ownBlock = some k → w'.heap[k]? = w.heap[k]?) : w'.ownsRow B e size v n xs := by
  refine ⟨h.1, ?_⟩
  rcases h.2 with hn | ⟨g, cap, cur, rfl, hg, hgg, rest⟩
  · exact .inl hn
  · exact .inr ⟨g, cap, cur, rfl, hg, (hk g rfl).trans hgg, rest⟩
end Go.Proofs.YtimjggkdpmgpjaaGreatDoor

namespace Go.Proofs.YtimjggkdpmgpjaaGreatDoor
open Go.RowKit
set_option linter.unusedSimpArgs false
set_option linter.unusedVariables false

theorem LogAt.below {w w' : World} {g r : Nat} {v : Value} {E : List (Nat × ByteArray)} (h : LogAt w g r v E) (hb : Below w.heap.size w w') : LogAt w' g r v E := by
  obtain ⟨hB, hown, hM⟩ := h
  refine ⟨hB.below hb hB.lt, own_block hown (fun k hk => hb.block k (hown.lt k hk).2), hM.below hb ?_⟩
  obtain ⟨es, cl, hg, _⟩ := hM
  exact (Array.getElem?_eq_some_iff.1 hg).1
end Go.Proofs.YtimjggkdpmgpjaaGreatDoor
