/- An entry put into a log: the program's contract. -/
import Derived.Test.YtaoglljkghkbpaaLogFns
import Derived.Test.YtaoglljkghkbpaaSegsIf
import Derived.Maps.AppendAt
import Derived.Deep.RegionLaw
import Derived.WalkSmall
import Derived.Deep.Heap
import Derived.Handy
namespace Go.Proofs.Ytaoglljkghkbpaa
open Go.RowKit
set_option linter.unusedSimpArgs false
set_option linter.unusedVariables false

theorem infoEnt : (Try.prog.info? 98).map (fun i => (i.zero, i.size, i.bytes)) = some (some (.agg #[.int .u8 0, .string ⟨#[]⟩]), 2, 24) := by kernel_rfl
theorem sizeEnt : (Try.prog.info? 98).map (·.size) = some 2 := by kernel_rfl
/-- what a log may change: its own block, its map, its row -/
def LogKeeps (g r : Nat) (v : Value) (w w' : World) : Prop :=
  w'.os = w.os ∧ w'.tape = w.tape ∧ w'.output = w.output ∧ w.heap.size ≤ w'.heap.size ∧ ∀ k, k < w.heap.size → k ≠ g → k ≠ r → v.ownBlock ≠ some k → w'.heap[k]? = w.heap[k]?

theorem own_ne {w : World} {B e size n g t : Nat} {v : Value} {xs : List Value} {cs : Array Value} (h : w.ownsRow B e size v n xs) (hb : Blk w g t cs) (hne : e ≠ t) : v.ownBlock ≠ some g := fun hq => by
  rcases h.2 with ⟨rfl, _⟩ | ⟨b, cap, cur, rfl, _, hg, _⟩
  · simp [Value.ownBlock] at hq
  · simp [Value.ownBlock] at hq
    subst hq
    unfold Blk at hb
    rw [hb] at hg
    simp at hg
    exact hne hg.2.symm
theorem own_map {w : World} {B e size n r clock : Nat} {v : Value} {xs : List Value} {es : Array MapEntry} (h : w.ownsRow B e size v n xs) (hb : w.heap[r]? = some (.map es clock)) : v.ownBlock ≠ some r := fun hq => by
  rcases h.2 with ⟨rfl, _⟩ | ⟨b, cap, cur, rfl, _, hg, _⟩
  · simp [Value.ownBlock] at hq
  · simp [Value.ownBlock] at hq
    subst hq
    rw [hb] at hg
    cases hg
theorem own_block {w w' : World} {B e size n : Nat} {v : Value} {xs : List Value} (h : w.ownsRow B e size v n xs) (hk : ∀ k, v.ownBlock = some k → w'.heap[k]? = w.heap[k]?) : w'.ownsRow B e size v n xs := by
  refine ⟨h.1, ?_⟩
  rcases h.2 with hn | ⟨g, cap, cur, rfl, hg, hgg, rest⟩
  · exact .inl hn
  · exact .inr ⟨g, cap, cur, rfl, hg, (hk g rfl).trans hgg, rest⟩
theorem step_append_own {P : Program} {ops : Array Oper} {o : Oper} {a : Act} {w : World} {K : Act → World → Prop} {Q : Exit → Act → World → Prop} {F : Prop} (hgd : o.guard = none) (s x : Operand) (t : TypeId)
    (ho : o.op = .call { callee := .builtin .append, args := #[s, x], argTypes := #[t, t] })
    (base : Nat) (e : TypeId) (i : TypeInfo) (z : Value) (size bytes : Nat) (ht : P.underlying t = some (.slice e)) (hi : P.info? e = some i) (hz : i.zero = some z)
    (hsize : i.size = size) (hby : i.bytes = bytes) (hzs : z.cells.size = size) (hsz : 0 < size)
    (v : Value) (n : Nat) (xs : List Value) (hs : a.eval s = v) (hown : w.ownsRow base e size v n xs)
    (ad : Addr) (m c : Nat) (news : List Value) (hx : a.eval x = .slice (some ad) m c) (hl : news.length = m * size) (hnews : ∀ j u, news[j]? = some u → w.cell? (ad.add j) = some u) (h1 : ∀ u ∈ news, u.oneCell' = true)
    (h63 : n + m ≤ maxLen) (hbytes : (n + m) * bytes ≤ 140737488355328) (hbase : base ≤ w.heap.size)
    (h : ∀ v' w', w'.ownsRow base e size v' (n + m) (xs ++ news) → w.grownBy w' v.ownBlock → (v'.ownBlock = v.ownBlock ∨ v'.ownBlock = some w.heap.size) → K (a.put o.dst v') w') :
    if Region.wanted o (yielded ops a.tmps) = true then Oper.wp P o a w K Q else F := by
  have hw : Region.wanted o (yielded ops a.tmps) = true := by simp [Region.wanted, hgd]
  rw [if_pos hw]
  obtain ⟨v', w', hr, g1, g2, g3, g4⟩ := run_append_own_at (P := P) w base t o.type e i z size bytes ht hi hz hsize hby hzs hsz v n xs hown ad m c news hl hnews h1 h63 hbytes hbase
  unfold Oper.wp
  simp [execOp, ho, resolve, invoke, builtin, hs, hx, hr, Result.andThen]
  exact h v' w' g1 g2 g4

set_option maxRecDepth 100000 in
set_option maxHeartbeats 4000000 in
theorem logAdd_any (tag : Nat) (s : ByteArray) (g r : Nat) (v : Value) (E : List (Nat × ByteArray)) (hE : E.length ≤ 4000000000000) (hn : isIn (tag, s) E = false) (w : World) (h : LogAt w g r v E) (y : Nat → Nat) (hy : va 32 (iv .u8 y) = va 32 (iv .u8 (sumOf (tag, s)))) :
    Calls Try.prog 47 #[.pointer (some ⟨g, 0, none⟩), .agg #[.int .u8 (tag : Int), .string s], .agg (va 32 (iv .u8 y))] w fun e w' => e = .returned (.tuple #[]) ∧ ∃ v', LogAt w' g r v' (E ++ [(tag, s)]) ∧ LogKeeps g r v w w' ∧ (v'.ownBlock = v.ownBlock ∨ ∃ k, v'.ownBlock = some k ∧ w.heap.size ≤ k) := by
  obtain ⟨i0, hi, hz0, hz1, hz2⟩ := info_parts infoEnt
  obtain ⟨hB, hown, hM⟩ := h
  have hgl := hB.lt
  have e0 : Blk ((w.alloc (.cells #[.int .u8 (tag : Int), .string s] 98)).alloc (.cells (va 32 (iv .u8 y)) 69)) w.heap.size 98 #[.int .u8 (tag : Int), .string s] := (Blk.new w _ _).alloc _
  have e1 : Blk ((w.alloc (.cells #[.int .u8 (tag : Int), .string s] 98)).alloc (.cells (va 32 (iv .u8 y)) 69)) (w.heap.size + 1) 69 (va 32 (iv .u8 y)) := by
    have e : (w.alloc (.cells #[.int .u8 (tag : Int), .string s] 98)).heap.size = w.heap.size + 1 := by simp
    rw [← e]
    exact Blk.new _ _ _
  have hB1 : Blk ((w.alloc (.cells #[.int .u8 (tag : Int), .string s] 98)).alloc (.cells (va 32 (iv .u8 y)) 69)) g 91 #[v, .map (some r)] := (hB.alloc _).alloc _
  have hown1 := (hown.alloc (.cells #[.int .u8 (tag : Int), .string s] 98)).alloc (.cells (va 32 (iv .u8 y)) 69)
  have hb1 : Below w.heap.size w ((w.alloc (.cells #[.int .u8 (tag : Int), .string s] 98)).alloc (.cells (va 32 (iv .u8 y)) 69)) := ((Below.refl _ _).alloc (Nat.le_refl _) _).alloc (by simp) _
  have hM1 := hM.below hb1 (by obtain ⟨es, cl, hg, _⟩ := hM; exact (Array.getElem?_eq_some_iff.1 hg).1)
  have hs1 : ((w.alloc (.cells #[.int .u8 (tag : Int), .string s] 98)).alloc (.cells (va 32 (iv .u8 y)) 69)).heap.size = w.heap.size + 2 := by simp
  have HN : Hid (isIn (tag, s) E = false) := hn
  clear hn
  have HY0 : Hid (va 32 (iv .u8 y) = va 32 (iv .u8 (sumOf (tag, s)))) := hy
  clear hy
  go_enter Try.func47, Try.ntmps47
  go_wp2_with fail
  generalize ((w.alloc (.cells #[.int .u8 (tag : Int), .string s] 98)).alloc (.cells (va 32 (iv .u8 y)) 69)) = w1 at *
  have c0 : w1.cell? ⟨g, 0, none⟩ = some v := by rw [hB1.cell]; rfl
  have f0 := hB1.frozen 0
  have c0' : (w1.alloc (.cells #[.int .u8 (tag : Int), .string s] 98)).cell? ⟨g, 0, none⟩ = some v := by rw [(hB1.alloc _).cell]; rfl
  have d0 : w1.cell? ⟨w.heap.size, 0, none⟩ = some (.int .u8 (tag : Int)) := by rw [e0.cell]; rfl
  have d1 : w1.cell? ⟨w.heap.size, 1, none⟩ = some (.string s) := by rw [e0.cell]; rfl
  have HOWN : Hid ((w1.alloc (.cells #[.int .u8 (tag : Int), .string s] 98)).drew.ownsRow 0 98 2 v E.length (entCells E)) := hown1.alloc _
  have HC : Hid (∀ j u, [Value.int .u8 (tag : Int), .string s][j]? = some u → (w1.alloc (.cells #[.int .u8 (tag : Int), .string s] 98)).drew.cell? ((⟨w.heap.size + 2, 0, none⟩ : Addr).add j) = some u) := by
    rw [← hs1]
    exact cell_two_new w1 _ _ _
  have HONE : Hid (∀ u ∈ [Value.int .u8 (tag : Int), .string s], u.oneCell' = true) := fun u hu => by
    simp at hu
    rcases hu with rfl | rfl <;> rfl
  have hne := own_ne hown1 hB1 (by decide)
  have HNE : Hid (v.ownBlock ≠ some g) := hne
  clear hne
  go_region_law (refine step_append_own rfl (.tmp 10) (.tmp 12) 89 rfl 0 98 i0 _ 2 24 Try.underlying89 hi hz0 hz1 hz2 rfl (by decide) v E.length (entCells E) (by simp [Act.eval, Act.put]) HOWN.out ⟨w.heap.size + 2, 0, none⟩ 1 1 [.int .u8 (tag : Int), .string s] (by simp [Act.eval, Act.put]) rfl HC.out HONE.out (by unfold maxLen; omega) (by omega) (Nat.zero_le _) ?_; intro v2 w2 hown2 hgrow2 hat2; obtain ⟨g2, cap2, rfl, hg2a, hg2b⟩ := own_form hown2 (Nat.succ_pos _); have hBg : Blk w2 g 91 #[v, .map (some r)] := (hgrow2.block g (by simp; omega) (fun q => HNE.out q.symm)).trans (hB1.alloc _); have cg : w2.cell? ⟨g, 0, none⟩ = some v := (by rw [hBg.cell]; rfl); have fg := hBg.frozen 0)
  all_goals
    (have hne2 : g2 ≠ g := fun q => own_ne hown2 hBg (by decide) (by rw [q]; rfl)
     have hs2 := hgrow2.size
     have hB3 : Blk (w2.setCell ⟨g, 0, none⟩ (.slice (some ⟨g2, 0, none⟩) (E.length + 1) cap2)) g 91 #[(.slice (some ⟨g2, 0, none⟩) (E.length + 1) cap2), .map (some r)] := hBg.put 0 (.slice (some ⟨g2, 0, none⟩) (E.length + 1) cap2)
     have hoth : ∀ k, k ≠ g → (w2.setCell ⟨g, 0, none⟩ (.slice (some ⟨g2, 0, none⟩) (E.length + 1) cap2)).heap[k]? = w2.heap[k]? := fun k hk => Deep.blk_setCell_other w2 ⟨g, 0, none⟩ _ k hk
     have hown3 : (w2.setCell ⟨g, 0, none⟩ (.slice (some ⟨g2, 0, none⟩) (E.length + 1) cap2)).ownsRow 0 98 2 (.slice (some ⟨g2, 0, none⟩) (E.length + 1) cap2) (E.length + 1) (entCells E ++ [.int .u8 (tag : Int), .string s]) := own_block hown2 (fun k hk => hoth k (by simp [Value.ownBlock] at hk; omega))
     have hM3 : MapIs entV sumV (w2.setCell ⟨g, 0, none⟩ (.slice (some ⟨g2, 0, none⟩) (E.length + 1) cap2)) r (E.map fun e => (e, sumOf e)) := by
       obtain ⟨es, cl, hg, he⟩ := hM1
       have hrl : r < w1.heap.size := (Array.getElem?_eq_some_iff.1 hg).1
       have hrg : r ≠ g := fun q => by
         subst q
         unfold Blk at hB1
         rw [hB1] at hg
         cases hg
       refine ⟨es, cl, ?_, he⟩
       rw [hoth r hrg, hgrow2.block r (by simp; omega) (fun q => own_map hown1 hg q.symm)]
       exact (heap_alloc_old _ _ hrl).trans hg
     have hlow : ∀ k, k < w1.heap.size → k ≠ g → v.ownBlock ≠ some k → (w2.setCell ⟨g, 0, none⟩ (.slice (some ⟨g2, 0, none⟩) (E.length + 1) cap2)).heap[k]? = w1.heap[k]? := fun k hk h1 h2 => by
       rw [hoth k h1, hgrow2.block k (by simp; omega) (fun q => h2 q.symm)]
       exact heap_alloc_old _ _ hk
     have hvb : ∀ k, v.ownBlock = some k → k < w.heap.size := fun k hk => (hown.lt k hk).2
     have e03 : Blk (w2.setCell ⟨g, 0, none⟩ (.slice (some ⟨g2, 0, none⟩) (E.length + 1) cap2)) w.heap.size 98 #[.int .u8 (tag : Int), .string s] := (hlow _ (by omega) (by omega) (fun q => by have := hvb _ q; omega)).trans e0
     have e13 : Blk (w2.setCell ⟨g, 0, none⟩ (.slice (some ⟨g2, 0, none⟩) (E.length + 1) cap2)) (w.heap.size + 1) 69 (va 32 (iv .u8 y)) := (hlow _ (by omega) (by omega) (fun q => by have := hvb _ q; omega)).trans e1
     have hos : (w2.setCell ⟨g, 0, none⟩ (.slice (some ⟨g2, 0, none⟩) (E.length + 1) cap2)).os = w.os ∧ (w2.setCell ⟨g, 0, none⟩ (.slice (some ⟨g2, 0, none⟩) (E.length + 1) cap2)).tape = w.tape ∧ (w2.setCell ⟨g, 0, none⟩ (.slice (some ⟨g2, 0, none⟩) (E.length + 1) cap2)).output = w.output := ⟨hgrow2.os.trans hb1.os, hgrow2.tape.trans hb1.tape, hgrow2.output.trans hb1.output⟩
     have hsz3 : w1.heap.size ≤ (w2.setCell ⟨g, 0, none⟩ (.slice (some ⟨g2, 0, none⟩) (E.length + 1) cap2)).heap.size := by
       rw [Deep.nblk_setCell]
       simp at hs2
       omega
     have hat3 : g2 < w2.heap.size := hg2b
     generalize w2.setCell ⟨g, 0, none⟩ (.slice (some ⟨g2, 0, none⟩) (E.length + 1) cap2) = w3 at *
     obtain ⟨w4, hup, hM4, hk4⟩ := run_update_is (P := Try.prog) Try.underlying88 entry_key (w := w3.drew) (show MapIs entV sumV w3.drew r (E.map fun e => (e, sumOf e)) from hM3) (tag, s) (sumOf (tag, s)) (by
       have := HN.out
       unfold isIn at this
       simpa using this)
     have hup2 : Sem.run Try.prog (Instr.mapUpdate 88 (.map (some r)) (.agg #[.int .u8 (tag : Int), .string s]) (.agg (va 32 (iv .u8 y)))) w3.drew = .ok () w4 := by
       rw [HY0.out]
       exact hup
     have c13 : w3.cell? ⟨g, 1, none⟩ = some (.map (some r)) := by rw [hB3.cell]; rfl
     have HUP : Hid (Sem.run Try.prog (Instr.mapUpdate 88 (.map (some r)) (.agg #[.int .u8 (tag : Int), .string s]) (.agg (va 32 (iv .u8 y)))) w3.drew = .ok () w4) := hup2
     clear hup hup2
     go_wp2_with fail
     refine wp_region_partsI [4, 5] [([4, 5, 0], 1, false), ([], 2, false), ([], 3, false)] [] [6] w3.heap.size (by kernel_rfl) (by kernel_rfl) (lows_two ⟨⟨w.heap.size, 0, none⟩, _, _, _, rfl, e03.lt, e03⟩ ⟨⟨w.heap.size + 1, 0, none⟩, _, _, _, rfl, e13.lt, e13⟩) (partsI_force ?_)
     simp only [List.cons_append, List.nil_append, List.append_nil, List.filterMap_cons, List.filterMap_nil, List.getElem?_toArray, List.getElem?_cons_zero, List.getElem?_cons_succ]
     refine wpList_load_row (by rfl) 98 _ (by rfl) w.heap.size (by rfl) 98 #[.int .u8 (tag : Int), .string s] (0, 0) _ e03.drew Try.underlying98 (by rfl) sizeEnt ?_
     simp only [Act.put, List.setIfInBounds_toArray, List.set_cons_zero, List.set_cons_succ]
     refine wpList_load_row (by rfl) 69 _ (by rfl) (w.heap.size + 1) (by rfl) 69 (va 32 (iv .u8 y)) (0, 0) _ e13.drew Try.underlying69 (by rfl) (sizeSum.trans (by rw [va_size])) ?_
     simp only [Act.put, List.setIfInBounds_toArray, List.set_cons_zero, List.set_cons_succ]
     go_wp2_with fail
     refine ⟨rfl, (Below.refl _ _).drew, partsI_force ?_⟩
     simp only [List.cons_append, List.nil_append, List.append_nil, List.filterMap_cons, List.filterMap_nil, List.getElem?_toArray, List.getElem?_cons_zero, List.getElem?_cons_succ]
     go_wp2_with fail
     refine ⟨rfl, (Below.refl _ _).drew, partsI_force ?_⟩
     simp only [List.cons_append, List.nil_append, List.append_nil, List.filterMap_cons, List.filterMap_nil, List.getElem?_toArray, List.getElem?_cons_zero, List.getElem?_cons_succ]
     go_wp2_with fail
     refine ⟨rfl, (Below.refl _ _).drew, partsI_last ?_⟩
     simp only [List.cons_append, List.nil_append, List.append_nil, List.filterMap_cons, List.filterMap_nil, List.getElem?_toArray, List.getElem?_cons_zero, List.getElem?_cons_succ]
     have hup3 := HUP.out
     go_wp2_with fail
     refine ⟨rfl, ?_⟩
     go_wp2_with fail
     refine bodyPost_end (results_none Try.results47 _ _ _) rfl ?_
     have hrg : g ≠ r := fun q => by
       subst q
       obtain ⟨es, cl, hg, _⟩ := hM3
       unfold Blk at hB3
       rw [hB3] at hg
       cases hg
     have hg2r : g2 ≠ r := fun q => by
       obtain ⟨es, cl, hg, _⟩ := hM3
       exact own_map hown3 hg (by rw [← q]; rfl)
     have hg2l : g2 < w3.heap.size := (hown3.lt g2 rfl).2
     refine ⟨rfl, (.slice (some ⟨g2, 0, none⟩) (E.length + 1) cap2), ⟨hk4.blk hB3.drew hrg, ?_, ?_⟩, ⟨hk4.1.os.trans hos.1, hk4.1.tape.trans hos.2.1, hk4.1.output.trans hos.2.2, ?_, fun k h1 h2 h3 h4 => ?_⟩, ?_⟩
     · have e1 : entCells (E ++ [(tag, s)]) = entCells E ++ [.int .u8 (tag : Int), .string s] := by simp [entCells]
       rw [e1, List.length_append]
       exact own_block hown3 (fun k hk => hk4.2 k (by simp [Value.ownBlock] at hk; omega) (by simp [Value.ownBlock] at hk; show k < w3.heap.size; omega))
     · rw [List.map_append]
       exact hM4
     · have := hk4.1.size
       have q : w3.drew.heap.size = w3.heap.size := rfl
       omega
     · rw [hk4.2 k h3 (by show k < w3.heap.size; omega)]
       have q : w3.drew.heap[k]? = w3.heap[k]? := rfl
       rw [q, hlow k (by omega) h2 h4]
       exact hb1.block k h1
     · rcases hat2 with q | q
       · exact .inl q
       · refine .inr ⟨_, q, ?_⟩
         simp
         omega)
end Go.Proofs.Ytaoglljkghkbpaa
