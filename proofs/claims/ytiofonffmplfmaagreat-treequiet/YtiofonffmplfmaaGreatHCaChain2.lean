/- A cache of however many entries: unlink and link, told by the list of entries: the contracts. -/
import Derived.Test.YtiofonffmplfmaaGreatHCaGet
import Derived.Handy

namespace Go.Proofs.YtiofonffmplfmaaGreat
theorem sgLHCaChain2 : (∀ (α : Type) (a : α) (l r : List α), (a :: l) ++ r = a :: (l ++ r)) ∧ (∀ (α : Type) (l : List α), [] ++ l = l) ∧ (∀ (α : Type) (l : List α), l ++ [] = l) ∧ (∀ (α β : Type) (f : α → Option β) (a : α) (l : List α), (a :: l).filterMap f = match f a with | none => l.filterMap f | some b => b :: l.filterMap f) ∧ (∀ (α β : Type) (f : α → Option β), [].filterMap f = []) ∧ (∀ (α : Type) (l : List α) (i : Nat), l.toArray[i]? = l[i]?) ∧ (∀ (α : Type) (a : α) (l : List α), (a :: l)[0]? = some a) ∧ (∀ (α : Type) (a : α) (l : List α) (i : Nat), (a :: l)[i + 1]? = l[i]?) :=
  ⟨fun _ _ _ _ => List.cons_append, fun _ _ => List.nil_append _, fun _ _ => List.append_nil _, fun _ _ _ _ _ => List.filterMap_cons, fun _ _ _ => List.filterMap_nil, fun _ _ _ => List.getElem?_toArray, fun _ _ _ => List.getElem?_cons_zero, fun _ _ _ _ => List.getElem?_cons_succ⟩
theorem sgPHCaChain2 : (∀ (α : Type) (l : List α) (i : Nat) (a : α), l.toArray.setIfInBounds i a = (l.set i a).toArray) ∧ (∀ (α : Type) (a b : α) (l : List α), (a :: l).set 0 b = b :: l) ∧ (∀ (α : Type) (a b : α) (l : List α) (i : Nat), (a :: l).set (i + 1) b = a :: l.set i b) :=
  ⟨fun _ _ _ _ => List.setIfInBounds_toArray _ _ _, fun _ _ _ _ => List.set_cons_zero, fun _ _ _ _ _ => List.set_cons_succ⟩
end Go.Proofs.YtiofonffmplfmaaGreat
namespace Go.Proofs.YtiofonffmplfmaaGreat
open Go Go.RowKit
set_option linter.unusedSimpArgs false
set_option linter.unusedVariables false

/-- an entry: its reference, its block in the memory, its bytes -/
structure En where
  k : Rf
  b : Nat
  f : Nat → Nat
def enA (e : En) : Addr := ⟨e.b, 0, none⟩
def prevOf (L : List En) (i : Nat) : Option Addr := if i = 0 then none else (L[i - 1]?).map enA
def nextOf (L : List En) (i : Nat) : Option Addr := (L[i + 1]?).map enA
def headOf (L : List En) : Option Addr := (L[0]?).map enA
def lastOf (L : List En) : Option Addr := prevOf L L.length
theorem blk_neT {w : World} {x y t t' : Nat} {cs cs' : Array Value} (h : Blk w x t cs) (h' : Blk w y t' cs') (ht : t ≠ t') : x ≠ y := fun e => by
  subst e
  have := h.symm.trans h'
  simp at this
  exact ht this.2
theorem blk_setNo {w : World} {b t g i : Nat} {cs : Array Value} {v : Value} (h : Blk w b t cs) (hne : b ≠ g) : Blk (w.setCell ⟨g, i, none⟩ v) b t cs := blk_setOther h hne
section
variable {c b : Nat} {m : Nat} {dp lp o n : Option Addr} {room h r bd cn : Int} {R : Rf} {f : Nat → Nat}
set_option maxRecDepth 100000 in
set_option maxHeartbeats 4000000 in
theorem unlink_00 (w : World) (hg : Blk w c 133 (caC dp lp room m o n h r bd cn)) (hb : Blk w b 174 (enC R f none none)) : Calls Tryz.prog 70 #[.pointer (some ⟨c, 3, none⟩), .pointer (some ⟨b, 0, none⟩)] w fun e w' => e = .returned (.tuple #[]) ∧ w' = ((w.setCell ⟨c, 4, none⟩ (.pointer none)).setCell ⟨c, 5, none⟩ (.pointer none)) := by
  have hbc : b ≠ c := blk_neT hb hg (by decide)
  have cO := en_cO hb
  have cN := en_cN hb
  have c4 : w.cell? ⟨c, 4, none⟩ = some (.pointer o) := by rw [hg.cell]; rfl
  have c5 : w.cell? ⟨c, 5, none⟩ = some (.pointer n) := by rw [hg.cell]; rfl
  have hbc' : c ≠ b := Ne.symm hbc
  have f4 : w.frozen? ⟨c, 4, none⟩ = false := hg.frozen 4
  have b1 : Blk (w.setCell ⟨c, 4, none⟩ (.pointer none)) b 174 (enC R f none none) := blk_setNo hb hbc
  have cO1 := en_cO b1
  have cN1 := en_cN b1
  have g1 : Blk (w.setCell ⟨c, 4, none⟩ (.pointer none)) c 133 (caC dp lp room m none n h r bd cn) := hg.put 4 _
  have f5 : (w.setCell ⟨c, 4, none⟩ (.pointer none)).frozen? ⟨c, 5, none⟩ = false := g1.frozen 5
  have c51 : (w.setCell ⟨c, 4, none⟩ (.pointer none)).cell? ⟨c, 5, none⟩ = some (.pointer n) := by rw [g1.cell]; rfl
  clear hg hb b1 g1
  go_enter Tryz.func70, Tryz.ntmps70
  go_wp2_with fail
  try simp only [Exit.inBlock, Exit.then]
  first
    | refine bodyPost_end (results_none Tryz.results70 _ _ _) rfl ?_
    | refine bodyPost_ret (results_none Tryz.results70 _ _ _) rfl ?_
  exact ⟨rfl, rfl⟩
set_option maxRecDepth 100000 in
set_option maxHeartbeats 4000000 in
theorem unlink_01 {y : Nat} {Ry : Rf} {fy : Nat → Nat} {oy ny : Option Addr} (w : World) (hg : Blk w c 133 (caC dp lp room m o n h r bd cn)) (hb : Blk w b 174 (enC R f none (some ⟨y, 0, none⟩))) (hy : Blk w y 174 (enC Ry fy oy ny)) (hyb : b ≠ y) : Calls Tryz.prog 70 #[.pointer (some ⟨c, 3, none⟩), .pointer (some ⟨b, 0, none⟩)] w fun e w' => e = .returned (.tuple #[]) ∧ w' = ((w.setCell ⟨c, 4, none⟩ (.pointer (some ⟨y, 0, none⟩))).setCell ⟨y, 289, none⟩ (.pointer none)).drew := by
  have hbc : b ≠ c := blk_neT hb hg (by decide)
  have cO := en_cO hb
  have cN := en_cN hb
  have c4 : w.cell? ⟨c, 4, none⟩ = some (.pointer o) := by rw [hg.cell]; rfl
  have c5 : w.cell? ⟨c, 5, none⟩ = some (.pointer n) := by rw [hg.cell]; rfl
  have hbc' : c ≠ b := Ne.symm hbc
  have f4 : w.frozen? ⟨c, 4, none⟩ = false := hg.frozen 4
  have b1 : Blk (w.setCell ⟨c, 4, none⟩ (.pointer (some ⟨y, 0, none⟩))) b 174 (enC R f none (some ⟨y, 0, none⟩)) := blk_setNo hb hbc
  have cO1 := en_cO b1
  have cN1 := en_cN b1
  have hyc : y ≠ c := blk_neT hy hg (by decide)
  have hyb' : y ≠ b := Ne.symm hyb
  have hyc' : c ≠ y := Ne.symm hyc
  have y1 : Blk (w.setCell ⟨c, 4, none⟩ (.pointer (some ⟨y, 0, none⟩))) y 174 (enC Ry fy oy ny) := blk_setNo hy hyc
  have cyO : (w.setCell ⟨c, 4, none⟩ (.pointer (some ⟨y, 0, none⟩))).cell? ⟨y, 289, none⟩ = some (.pointer oy) := en_cO y1
  have fy1 : (w.setCell ⟨c, 4, none⟩ (.pointer (some ⟨y, 0, none⟩))).frozen? ⟨y, 289, none⟩ = false := y1.frozen 289
  have hS2 : (w.setCell ⟨c, 4, none⟩ (.pointer (some ⟨y, 0, none⟩))).drew.cell? ⟨b, 290, none⟩ = some (.pointer (some ⟨y, 0, none⟩)) ∧ (w.setCell ⟨c, 4, none⟩ (.pointer (some ⟨y, 0, none⟩))).drew.cell? ⟨b, 289, none⟩ = some (.pointer none) := ⟨cN1, cO1⟩
  clear hg hb b1 hy y1
  go_enter Tryz.func70, Tryz.ntmps70
  go_wp2_with fail
  refine wp_region_partsS (fun W => W.cell? ⟨b, 290, none⟩ = some (.pointer (some ⟨y, 0, none⟩)) ∧ W.cell? ⟨b, 289, none⟩ = some (.pointer none)) [([0, 4], 1, true), ([], 2, true), ([], 3, true), ([], 5, true), ([], 6, true), ([], 7, true), ([], 8, true), ([], 9, true)] [] [10] (by kernel_rfl) (by kernel_rfl) hS2 (partsI_yield ?_)
  simp only [sgLHCaChain2]
  go_wp2_with fail
  refine ⟨rfl, _, .pointer (some ⟨b, 0, none⟩), rfl, Or.inl ⟨by rfl, fun W hW => by go_simp⟩, partsI_yield ?_⟩
  simp only [Act.put, sgPHCaChain2]
  simp only [sgLHCaChain2]
  go_wp2_with fail
  refine ⟨rfl, _, .pointer (some ⟨b, 290, none⟩), rfl, Or.inl ⟨by rfl, fun W hW => by go_simp⟩, partsI_yield ?_⟩
  simp only [Act.put, sgPHCaChain2]
  simp only [sgLHCaChain2]
  go_wp2_with fail
  refine ⟨rfl, _, .pointer (some ⟨y, 0, none⟩), rfl, Or.inl ⟨by rfl, fun W hW => by have h1 := hW.1; go_simp⟩, partsI_yield ?_⟩
  simp only [Act.put, sgPHCaChain2]
  simp only [sgLHCaChain2]
  go_wp2_with fail
  refine ⟨rfl, _, .pointer (some ⟨b, 0, none⟩), rfl, Or.inl ⟨by rfl, fun W hW => by go_simp⟩, partsI_yield ?_⟩
  simp only [Act.put, sgPHCaChain2]
  simp only [sgLHCaChain2]
  go_wp2_with fail
  refine ⟨rfl, _, .pointer (some ⟨b, 289, none⟩), rfl, Or.inl ⟨by rfl, fun W hW => by go_simp⟩, partsI_yield ?_⟩
  simp only [Act.put, sgPHCaChain2]
  simp only [sgLHCaChain2]
  go_wp2_with fail
  refine ⟨rfl, _, .pointer none, rfl, Or.inl ⟨by rfl, fun W hW => by have h1 := hW.2; go_simp⟩, partsI_yield ?_⟩
  simp only [Act.put, sgPHCaChain2]
  simp only [sgLHCaChain2]
  go_wp2_with fail
  refine ⟨rfl, _, .pointer (some ⟨y, 0, none⟩), rfl, Or.inl ⟨by rfl, fun W hW => by go_simp⟩, partsI_yield ?_⟩
  simp only [Act.put, sgPHCaChain2]
  simp only [sgLHCaChain2]
  go_wp2_with fail
  refine ⟨rfl, _, .pointer (some ⟨y, 289, none⟩), rfl, Or.inl ⟨by rfl, fun W hW => by go_simp⟩, partsI_last ?_⟩
  simp only [Act.put, sgPHCaChain2]
  simp only [sgLHCaChain2]
  go_wp2_with fail
  refine ⟨rfl, ?_⟩
  go_wp2_with fail
  try simp only [Exit.inBlock, Exit.then]
  first
    | refine bodyPost_end (results_none Tryz.results70 _ _ _) rfl ?_
    | refine bodyPost_ret (results_none Tryz.results70 _ _ _) rfl ?_
  exact ⟨rfl, rfl⟩
set_option maxRecDepth 100000 in
set_option maxHeartbeats 4000000 in
theorem unlink_10 {x : Nat} {Rx : Rf} {fx : Nat → Nat} {ox nx : Option Addr} (w : World) (hg : Blk w c 133 (caC dp lp room m o n h r bd cn)) (hb : Blk w b 174 (enC R f (some ⟨x, 0, none⟩) none)) (hx : Blk w x 174 (enC Rx fx ox nx)) (hxb : b ≠ x) : Calls Tryz.prog 70 #[.pointer (some ⟨c, 3, none⟩), .pointer (some ⟨b, 0, none⟩)] w fun e w' => e = .returned (.tuple #[]) ∧ w' = ((w.setCell ⟨x, 290, none⟩ (.pointer none)).drew.setCell ⟨c, 5, none⟩ (.pointer (some ⟨x, 0, none⟩))) := by
  have hbc : b ≠ c := blk_neT hb hg (by decide)
  have cO := en_cO hb
  have cN := en_cN hb
  have c4 : w.cell? ⟨c, 4, none⟩ = some (.pointer o) := by rw [hg.cell]; rfl
  have c5 : w.cell? ⟨c, 5, none⟩ = some (.pointer n) := by rw [hg.cell]; rfl
  have hbc' : c ≠ b := Ne.symm hbc
  have hxc : x ≠ c := blk_neT hx hg (by decide)
  have hxb' : x ≠ b := Ne.symm hxb
  have hxc' : c ≠ x := Ne.symm hxc
  have cxN : w.cell? ⟨x, 290, none⟩ = some (.pointer nx) := en_cN hx
  have fx1 : w.frozen? ⟨x, 290, none⟩ = false := hx.frozen 290
  have hS1 : w.drew.cell? ⟨b, 289, none⟩ = some (.pointer (some ⟨x, 0, none⟩)) ∧ w.drew.cell? ⟨b, 290, none⟩ = some (.pointer none) := ⟨cO, cN⟩
  have b1 : Blk (w.setCell ⟨x, 290, none⟩ (.pointer none)).drew b 174 (enC R f (some ⟨x, 0, none⟩) none) := blk_setNo hb hxb
  have cO1 := en_cO b1
  have cN1 := en_cN b1
  have g1 : Blk (w.setCell ⟨x, 290, none⟩ (.pointer none)).drew c 133 (caC dp lp room m o n h r bd cn) := blk_setNo hg hxc.symm
  have f5 : (w.setCell ⟨x, 290, none⟩ (.pointer none)).drew.frozen? ⟨c, 5, none⟩ = false := g1.frozen 5
  have c51 : (w.setCell ⟨x, 290, none⟩ (.pointer none)).drew.cell? ⟨c, 5, none⟩ = some (.pointer n) := by rw [g1.cell]; rfl
  clear hg hb b1 hx g1
  go_enter Tryz.func70, Tryz.ntmps70
  go_wp2_with fail
  refine wp_region_partsS (fun W => W.cell? ⟨b, 289, none⟩ = some (.pointer (some ⟨x, 0, none⟩)) ∧ W.cell? ⟨b, 290, none⟩ = some (.pointer none)) [([0, 4], 1, true), ([], 2, true), ([], 3, true), ([], 5, true), ([], 6, true), ([], 7, true), ([], 8, true), ([], 9, true)] [] [10] (by kernel_rfl) (by kernel_rfl) hS1 (partsI_yield ?_)
  simp only [sgLHCaChain2]
  go_wp2_with fail
  refine ⟨rfl, _, .pointer (some ⟨b, 0, none⟩), rfl, Or.inl ⟨by rfl, fun W hW => by go_simp⟩, partsI_yield ?_⟩
  simp only [Act.put, sgPHCaChain2]
  simp only [sgLHCaChain2]
  go_wp2_with fail
  refine ⟨rfl, _, .pointer (some ⟨b, 289, none⟩), rfl, Or.inl ⟨by rfl, fun W hW => by go_simp⟩, partsI_yield ?_⟩
  simp only [Act.put, sgPHCaChain2]
  simp only [sgLHCaChain2]
  go_wp2_with fail
  refine ⟨rfl, _, .pointer (some ⟨x, 0, none⟩), rfl, Or.inl ⟨by rfl, fun W hW => by have h1 := hW.1; go_simp⟩, partsI_yield ?_⟩
  simp only [Act.put, sgPHCaChain2]
  simp only [sgLHCaChain2]
  go_wp2_with fail
  refine ⟨rfl, _, .pointer (some ⟨b, 0, none⟩), rfl, Or.inl ⟨by rfl, fun W hW => by go_simp⟩, partsI_yield ?_⟩
  simp only [Act.put, sgPHCaChain2]
  simp only [sgLHCaChain2]
  go_wp2_with fail
  refine ⟨rfl, _, .pointer (some ⟨b, 290, none⟩), rfl, Or.inl ⟨by rfl, fun W hW => by go_simp⟩, partsI_yield ?_⟩
  simp only [Act.put, sgPHCaChain2]
  simp only [sgLHCaChain2]
  go_wp2_with fail
  refine ⟨rfl, _, .pointer none, rfl, Or.inl ⟨by rfl, fun W hW => by have h1 := hW.2; go_simp⟩, partsI_yield ?_⟩
  simp only [Act.put, sgPHCaChain2]
  simp only [sgLHCaChain2]
  go_wp2_with fail
  refine ⟨rfl, _, .pointer (some ⟨x, 0, none⟩), rfl, Or.inl ⟨by rfl, fun W hW => by go_simp⟩, partsI_yield ?_⟩
  simp only [Act.put, sgPHCaChain2]
  simp only [sgLHCaChain2]
  go_wp2_with fail
  refine ⟨rfl, _, .pointer (some ⟨x, 290, none⟩), rfl, Or.inl ⟨by rfl, fun W hW => by go_simp⟩, partsI_last ?_⟩
  simp only [Act.put, sgPHCaChain2]
  simp only [sgLHCaChain2]
  go_wp2_with fail
  refine ⟨rfl, ?_⟩
  generalize hW1 : (w.setCell ⟨x, 290, none⟩ (.pointer none)).drew = w1 at *
  go_wp2_with fail
  subst hW1
  try simp only [Exit.inBlock, Exit.then]
  first
    | refine bodyPost_end (results_none Tryz.results70 _ _ _) rfl ?_
    | refine bodyPost_ret (results_none Tryz.results70 _ _ _) rfl ?_
  exact ⟨rfl, rfl⟩
set_option maxRecDepth 100000 in
set_option maxHeartbeats 4000000 in
theorem unlink_11 {x : Nat} {Rx : Rf} {fx : Nat → Nat} {ox nx : Option Addr} {y : Nat} {Ry : Rf} {fy : Nat → Nat} {oy ny : Option Addr} (w : World) (hg : Blk w c 133 (caC dp lp room m o n h r bd cn)) (hb : Blk w b 174 (enC R f (some ⟨x, 0, none⟩) (some ⟨y, 0, none⟩))) (hx : Blk w x 174 (enC Rx fx ox nx)) (hxb : b ≠ x) (hy : Blk w y 174 (enC Ry fy oy ny)) (hyb : b ≠ y) (hxy : y ≠ x) : Calls Tryz.prog 70 #[.pointer (some ⟨c, 3, none⟩), .pointer (some ⟨b, 0, none⟩)] w fun e w' => e = .returned (.tuple #[]) ∧ w' = ((w.setCell ⟨x, 290, none⟩ (.pointer (some ⟨y, 0, none⟩))).drew.setCell ⟨y, 289, none⟩ (.pointer (some ⟨x, 0, none⟩))).drew := by
  have hbc : b ≠ c := blk_neT hb hg (by decide)
  have cO := en_cO hb
  have cN := en_cN hb
  have c4 : w.cell? ⟨c, 4, none⟩ = some (.pointer o) := by rw [hg.cell]; rfl
  have c5 : w.cell? ⟨c, 5, none⟩ = some (.pointer n) := by rw [hg.cell]; rfl
  have hbc' : c ≠ b := Ne.symm hbc
  have hxc : x ≠ c := blk_neT hx hg (by decide)
  have hxb' : x ≠ b := Ne.symm hxb
  have hxc' : c ≠ x := Ne.symm hxc
  have cxN : w.cell? ⟨x, 290, none⟩ = some (.pointer nx) := en_cN hx
  have fx1 : w.frozen? ⟨x, 290, none⟩ = false := hx.frozen 290
  have hS1 : w.drew.cell? ⟨b, 289, none⟩ = some (.pointer (some ⟨x, 0, none⟩)) ∧ w.drew.cell? ⟨b, 290, none⟩ = some (.pointer (some ⟨y, 0, none⟩)) := ⟨cO, cN⟩
  have b1 : Blk (w.setCell ⟨x, 290, none⟩ (.pointer (some ⟨y, 0, none⟩))).drew b 174 (enC R f (some ⟨x, 0, none⟩) (some ⟨y, 0, none⟩)) := blk_setNo hb hxb
  have cO1 := en_cO b1
  have cN1 := en_cN b1
  have hyc : y ≠ c := blk_neT hy hg (by decide)
  have hyb' : y ≠ b := Ne.symm hyb
  have hyc' : c ≠ y := Ne.symm hyc
  have y1 : Blk (w.setCell ⟨x, 290, none⟩ (.pointer (some ⟨y, 0, none⟩))).drew y 174 (enC Ry fy oy ny) := blk_setNo hy hxy
  have cyO : (w.setCell ⟨x, 290, none⟩ (.pointer (some ⟨y, 0, none⟩))).drew.cell? ⟨y, 289, none⟩ = some (.pointer oy) := en_cO y1
  have fy1 : (w.setCell ⟨x, 290, none⟩ (.pointer (some ⟨y, 0, none⟩))).drew.frozen? ⟨y, 289, none⟩ = false := y1.frozen 289
  have hS2 : (w.setCell ⟨x, 290, none⟩ (.pointer (some ⟨y, 0, none⟩))).drew.drew.cell? ⟨b, 290, none⟩ = some (.pointer (some ⟨y, 0, none⟩)) ∧ (w.setCell ⟨x, 290, none⟩ (.pointer (some ⟨y, 0, none⟩))).drew.drew.cell? ⟨b, 289, none⟩ = some (.pointer (some ⟨x, 0, none⟩)) := ⟨cN1, cO1⟩
  have hxy2 : x ≠ y := Ne.symm hxy
  clear hg hb b1 hx hy y1
  go_enter Tryz.func70, Tryz.ntmps70
  go_wp2_with fail
  refine wp_region_partsS (fun W => W.cell? ⟨b, 289, none⟩ = some (.pointer (some ⟨x, 0, none⟩)) ∧ W.cell? ⟨b, 290, none⟩ = some (.pointer (some ⟨y, 0, none⟩))) [([0, 4], 1, true), ([], 2, true), ([], 3, true), ([], 5, true), ([], 6, true), ([], 7, true), ([], 8, true), ([], 9, true)] [] [10] (by kernel_rfl) (by kernel_rfl) hS1 (partsI_yield ?_)
  simp only [sgLHCaChain2]
  go_wp2_with fail
  refine ⟨rfl, _, .pointer (some ⟨b, 0, none⟩), rfl, Or.inl ⟨by rfl, fun W hW => by go_simp⟩, partsI_yield ?_⟩
  simp only [Act.put, sgPHCaChain2]
  simp only [sgLHCaChain2]
  go_wp2_with fail
  refine ⟨rfl, _, .pointer (some ⟨b, 289, none⟩), rfl, Or.inl ⟨by rfl, fun W hW => by go_simp⟩, partsI_yield ?_⟩
  simp only [Act.put, sgPHCaChain2]
  simp only [sgLHCaChain2]
  go_wp2_with fail
  refine ⟨rfl, _, .pointer (some ⟨x, 0, none⟩), rfl, Or.inl ⟨by rfl, fun W hW => by have h1 := hW.1; go_simp⟩, partsI_yield ?_⟩
  simp only [Act.put, sgPHCaChain2]
  simp only [sgLHCaChain2]
  go_wp2_with fail
  refine ⟨rfl, _, .pointer (some ⟨b, 0, none⟩), rfl, Or.inl ⟨by rfl, fun W hW => by go_simp⟩, partsI_yield ?_⟩
  simp only [Act.put, sgPHCaChain2]
  simp only [sgLHCaChain2]
  go_wp2_with fail
  refine ⟨rfl, _, .pointer (some ⟨b, 290, none⟩), rfl, Or.inl ⟨by rfl, fun W hW => by go_simp⟩, partsI_yield ?_⟩
  simp only [Act.put, sgPHCaChain2]
  simp only [sgLHCaChain2]
  go_wp2_with fail
  refine ⟨rfl, _, .pointer (some ⟨y, 0, none⟩), rfl, Or.inl ⟨by rfl, fun W hW => by have h1 := hW.2; go_simp⟩, partsI_yield ?_⟩
  simp only [Act.put, sgPHCaChain2]
  simp only [sgLHCaChain2]
  go_wp2_with fail
  refine ⟨rfl, _, .pointer (some ⟨x, 0, none⟩), rfl, Or.inl ⟨by rfl, fun W hW => by go_simp⟩, partsI_yield ?_⟩
  simp only [Act.put, sgPHCaChain2]
  simp only [sgLHCaChain2]
  go_wp2_with fail
  refine ⟨rfl, _, .pointer (some ⟨x, 290, none⟩), rfl, Or.inl ⟨by rfl, fun W hW => by go_simp⟩, partsI_last ?_⟩
  simp only [Act.put, sgPHCaChain2]
  simp only [sgLHCaChain2]
  go_wp2_with fail
  refine ⟨rfl, ?_⟩
  generalize hW1 : (w.setCell ⟨x, 290, none⟩ (.pointer (some ⟨y, 0, none⟩))).drew = w1 at *
  go_wp2_with fail
  refine wp_region_partsS (fun W => W.cell? ⟨b, 290, none⟩ = some (.pointer (some ⟨y, 0, none⟩)) ∧ W.cell? ⟨b, 289, none⟩ = some (.pointer (some ⟨x, 0, none⟩))) [([0, 4], 1, true), ([], 2, true), ([], 3, true), ([], 5, true), ([], 6, true), ([], 7, true), ([], 8, true), ([], 9, true)] [] [10] (by kernel_rfl) (by kernel_rfl) hS2 (partsI_yield ?_)
  simp only [sgLHCaChain2]
  go_wp2_with fail
  refine ⟨rfl, _, .pointer (some ⟨b, 0, none⟩), rfl, Or.inl ⟨by rfl, fun W hW => by go_simp⟩, partsI_yield ?_⟩
  simp only [Act.put, sgPHCaChain2]
  simp only [sgLHCaChain2]
  go_wp2_with fail
  refine ⟨rfl, _, .pointer (some ⟨b, 290, none⟩), rfl, Or.inl ⟨by rfl, fun W hW => by go_simp⟩, partsI_yield ?_⟩
  simp only [Act.put, sgPHCaChain2]
  simp only [sgLHCaChain2]
  go_wp2_with fail
  refine ⟨rfl, _, .pointer (some ⟨y, 0, none⟩), rfl, Or.inl ⟨by rfl, fun W hW => by have h1 := hW.1; go_simp⟩, partsI_yield ?_⟩
  simp only [Act.put, sgPHCaChain2]
  simp only [sgLHCaChain2]
  go_wp2_with fail
  refine ⟨rfl, _, .pointer (some ⟨b, 0, none⟩), rfl, Or.inl ⟨by rfl, fun W hW => by go_simp⟩, partsI_yield ?_⟩
  simp only [Act.put, sgPHCaChain2]
  simp only [sgLHCaChain2]
  go_wp2_with fail
  refine ⟨rfl, _, .pointer (some ⟨b, 289, none⟩), rfl, Or.inl ⟨by rfl, fun W hW => by go_simp⟩, partsI_yield ?_⟩
  simp only [Act.put, sgPHCaChain2]
  simp only [sgLHCaChain2]
  go_wp2_with fail
  refine ⟨rfl, _, .pointer (some ⟨x, 0, none⟩), rfl, Or.inl ⟨by rfl, fun W hW => by have h1 := hW.2; go_simp⟩, partsI_yield ?_⟩
  simp only [Act.put, sgPHCaChain2]
  simp only [sgLHCaChain2]
  go_wp2_with fail
  refine ⟨rfl, _, .pointer (some ⟨y, 0, none⟩), rfl, Or.inl ⟨by rfl, fun W hW => by go_simp⟩, partsI_yield ?_⟩
  simp only [Act.put, sgPHCaChain2]
  simp only [sgLHCaChain2]
  go_wp2_with fail
  refine ⟨rfl, _, .pointer (some ⟨y, 289, none⟩), rfl, Or.inl ⟨by rfl, fun W hW => by go_simp⟩, partsI_last ?_⟩
  simp only [Act.put, sgPHCaChain2]
  simp only [sgLHCaChain2]
  go_wp2_with fail
  refine ⟨rfl, ?_⟩
  go_wp2_with fail
  subst hW1
  try simp only [Exit.inBlock, Exit.then]
  first
    | refine bodyPost_end (results_none Tryz.results70 _ _ _) rfl ?_
    | refine bodyPost_ret (results_none Tryz.results70 _ _ _) rfl ?_
  exact ⟨rfl, rfl⟩
set_option maxRecDepth 100000 in
set_option maxHeartbeats 4000000 in
theorem link_0 {o0 n0 : Option Addr} (w : World) (hg : Blk w c 133 (caC dp lp room m o none h r bd cn)) (hb : Blk w b 174 (enC R f o0 n0)) : Calls Tryz.prog 71 #[.pointer (some ⟨c, 3, none⟩), .pointer (some ⟨b, 0, none⟩)] w fun e w' => e = .returned (.tuple #[]) ∧ w' = ((((w.setCell ⟨b, 289, none⟩ (.pointer none)).setCell ⟨b, 290, none⟩ (.pointer none)).setCell ⟨c, 4, none⟩ (.pointer (some ⟨b, 0, none⟩))).setCell ⟨c, 5, none⟩ (.pointer (some ⟨b, 0, none⟩))) := by
  have hne : b ≠ c := blk_neT hb hg (by decide)
  have hne' : c ≠ b := Ne.symm hne
  have c5 : w.cell? ⟨c, 5, none⟩ = some (.pointer none) := by rw [hg.cell]; rfl
  have c4 : w.cell? ⟨c, 4, none⟩ = some (.pointer o) := by rw [hg.cell]; rfl
  have cO := en_cO hb
  have cN := en_cN hb
  have fo : w.frozen? ⟨b, 289, none⟩ = false := hb.frozen 289
  have b1 := en_putO hb none
  have g1 : Blk (w.setCell ⟨b, 289, none⟩ (.pointer none)) c 133 (caC dp lp room m o none h r bd cn) := blk_setNo hg hne'
  have fn : (w.setCell ⟨b, 289, none⟩ (.pointer none)).frozen? ⟨b, 290, none⟩ = false := b1.frozen 290
  have g2 : Blk ((w.setCell ⟨b, 289, none⟩ (.pointer none)).setCell ⟨b, 290, none⟩ (.pointer none)) c 133 (caC dp lp room m o none h r bd cn) := blk_setNo g1 hne'
  have c52 : ((w.setCell ⟨b, 289, none⟩ (.pointer none)).setCell ⟨b, 290, none⟩ (.pointer none)).cell? ⟨c, 5, none⟩ = some (.pointer none) := by rw [g2.cell]; rfl
  have f4 : ((w.setCell ⟨b, 289, none⟩ (.pointer none)).setCell ⟨b, 290, none⟩ (.pointer none)).frozen? ⟨c, 4, none⟩ = false := g2.frozen 4
  have g3 : Blk (((w.setCell ⟨b, 289, none⟩ (.pointer none)).setCell ⟨b, 290, none⟩ (.pointer none)).setCell ⟨c, 4, none⟩ (.pointer (some ⟨b, 0, none⟩))) c 133 (caC dp lp room m (some ⟨b, 0, none⟩) none h r bd cn) := g2.put 4 _
  have f5 : (((w.setCell ⟨b, 289, none⟩ (.pointer none)).setCell ⟨b, 290, none⟩ (.pointer none)).setCell ⟨c, 4, none⟩ (.pointer (some ⟨b, 0, none⟩))).frozen? ⟨c, 5, none⟩ = false := g3.frozen 5
  clear hg hb b1 g1 g2 g3
  go_enter Tryz.func71, Tryz.ntmps71
  go_wp2_with fail
  try simp only [Exit.inBlock, Exit.then]
  first
    | refine bodyPost_end (results_none Tryz.results71 _ _ _) rfl ?_
    | refine bodyPost_ret (results_none Tryz.results71 _ _ _) rfl ?_
  exact ⟨rfl, rfl⟩
set_option maxRecDepth 100000 in
set_option maxHeartbeats 4000000 in
theorem link_1 {y : Nat} {Ry : Rf} {fy : Nat → Nat} {oy ny : Option Addr} {o0 n0 : Option Addr} (w : World) (hg : Blk w c 133 (caC dp lp room m o (some ⟨y, 0, none⟩) h r bd cn)) (hb : Blk w b 174 (enC R f o0 n0)) (hy : Blk w y 174 (enC Ry fy oy ny)) (hyb : b ≠ y) : Calls Tryz.prog 71 #[.pointer (some ⟨c, 3, none⟩), .pointer (some ⟨b, 0, none⟩)] w fun e w' => e = .returned (.tuple #[]) ∧ w' = ((((w.setCell ⟨b, 289, none⟩ (.pointer (some ⟨y, 0, none⟩))).setCell ⟨b, 290, none⟩ (.pointer none)).setCell ⟨y, 290, none⟩ (.pointer (some ⟨b, 0, none⟩))).setCell ⟨c, 5, none⟩ (.pointer (some ⟨b, 0, none⟩))) := by
  have hne : b ≠ c := blk_neT hb hg (by decide)
  have hne' : c ≠ b := Ne.symm hne
  have c5 : w.cell? ⟨c, 5, none⟩ = some (.pointer (some ⟨y, 0, none⟩)) := by rw [hg.cell]; rfl
  have c4 : w.cell? ⟨c, 4, none⟩ = some (.pointer o) := by rw [hg.cell]; rfl
  have cO := en_cO hb
  have cN := en_cN hb
  have fo : w.frozen? ⟨b, 289, none⟩ = false := hb.frozen 289
  have b1 := en_putO hb (some ⟨y, 0, none⟩)
  have g1 : Blk (w.setCell ⟨b, 289, none⟩ (.pointer (some ⟨y, 0, none⟩))) c 133 (caC dp lp room m o (some ⟨y, 0, none⟩) h r bd cn) := blk_setNo hg hne'
  have fn : (w.setCell ⟨b, 289, none⟩ (.pointer (some ⟨y, 0, none⟩))).frozen? ⟨b, 290, none⟩ = false := b1.frozen 290
  have g2 : Blk ((w.setCell ⟨b, 289, none⟩ (.pointer (some ⟨y, 0, none⟩))).setCell ⟨b, 290, none⟩ (.pointer none)) c 133 (caC dp lp room m o (some ⟨y, 0, none⟩) h r bd cn) := blk_setNo g1 hne'
  have c52 : ((w.setCell ⟨b, 289, none⟩ (.pointer (some ⟨y, 0, none⟩))).setCell ⟨b, 290, none⟩ (.pointer none)).cell? ⟨c, 5, none⟩ = some (.pointer (some ⟨y, 0, none⟩)) := by rw [g2.cell]; rfl
  have hyc : y ≠ c := blk_neT hy hg (by decide)
  have hyc' : c ≠ y := Ne.symm hyc
  have hyb' : y ≠ b := Ne.symm hyb
  have y2 : Blk ((w.setCell ⟨b, 289, none⟩ (.pointer (some ⟨y, 0, none⟩))).setCell ⟨b, 290, none⟩ (.pointer none)) y 174 (enC Ry fy oy ny) := blk_setNo (blk_setNo hy hyb') hyb'
  have fy : ((w.setCell ⟨b, 289, none⟩ (.pointer (some ⟨y, 0, none⟩))).setCell ⟨b, 290, none⟩ (.pointer none)).frozen? ⟨y, 290, none⟩ = false := y2.frozen 290
  have cyN := en_cN hy
  have g3 : Blk (((w.setCell ⟨b, 289, none⟩ (.pointer (some ⟨y, 0, none⟩))).setCell ⟨b, 290, none⟩ (.pointer none)).setCell ⟨y, 290, none⟩ (.pointer (some ⟨b, 0, none⟩))) c 133 (caC dp lp room m o (some ⟨y, 0, none⟩) h r bd cn) := blk_setNo g2 hyc'
  have f5 : (((w.setCell ⟨b, 289, none⟩ (.pointer (some ⟨y, 0, none⟩))).setCell ⟨b, 290, none⟩ (.pointer none)).setCell ⟨y, 290, none⟩ (.pointer (some ⟨b, 0, none⟩))).frozen? ⟨c, 5, none⟩ = false := g3.frozen 5
  clear hg hb b1 g1 g2 g3 hy y2
  go_enter Tryz.func71, Tryz.ntmps71
  go_wp2_with fail
  try simp only [Exit.inBlock, Exit.then]
  first
    | refine bodyPost_end (results_none Tryz.results71 _ _ _) rfl ?_
    | refine bodyPost_ret (results_none Tryz.results71 _ _ _) rfl ?_
  exact ⟨rfl, rfl⟩
end
end Go.Proofs.YtiofonffmplfmaaGreat

namespace Go.Proofs.YtiofonffmplfmaaGreat
open Go Go.RowKit
set_option linter.unusedSimpArgs false
set_option linter.unusedVariables false

theorem er_lt (L : List En) {i j : Nat} (h : j < i) : (L.eraseIdx i)[j]? = L[j]? := by
  rw [List.getElem?_eraseIdx, if_pos h]
theorem er_ge (L : List En) {i j : Nat} (h : i ≤ j) : (L.eraseIdx i)[j]? = L[j + 1]? := by
  rw [List.getElem?_eraseIdx, if_neg (by omega)]
theorem er_prev_le (L : List En) {i j : Nat} (h : j ≤ i) : prevOf (L.eraseIdx i) j = prevOf L j := by
  unfold prevOf
  by_cases h0 : j = 0
  · rw [if_pos h0, if_pos h0]
  · rw [if_neg h0, if_neg h0, er_lt L (by omega)]
theorem er_prev_gt (L : List En) {i j : Nat} (h : i < j) : prevOf (L.eraseIdx i) j = prevOf L (j + 1) := by
  unfold prevOf
  rw [if_neg (by omega), if_neg (by omega), er_ge L (by omega), show j - 1 + 1 = j + 1 - 1 by omega]
theorem er_next_lt (L : List En) {i j : Nat} (h : j + 1 < i) : nextOf (L.eraseIdx i) j = nextOf L j := by
  unfold nextOf
  rw [er_lt L h]
theorem er_next_ge (L : List En) {i j : Nat} (h : i ≤ j + 1) : nextOf (L.eraseIdx i) j = nextOf L (j + 1) := by
  unfold nextOf
  rw [er_ge L h]
/-- the chain of entries in the memory -/
structure ChainAt (w : World) (c m : Nat) (dp lp : Option Addr) (room h r bd cn : Int) (L : List En) : Prop where
  blk : Blk w c 133 (caC dp lp room m (headOf L) (lastOf L) h r bd cn)
  ents : ∀ i e, L[i]? = some e → Blk w e.b 174 (enC e.k e.f (prevOf L i) (nextOf L i))
  nd : ∀ (i j : Nat) (e e' : En), L[i]? = some e → L[j]? = some e' → e.b = e'.b → i = j
/-- its blocks -/
def chfoot (c : Nat) (L : List En) (x : Nat) : Prop := x = c ∨ ∃ e ∈ L, x = e.b
section
variable {w w' : World} {c m : Nat} {dp lp : Option Addr} {room h r bd cn : Int} {L : List En} {i : Nat} {e : En}
theorem ChainAt.below (H : ChainAt w c m dp lp room h r bd cn L) (hb : Below w.heap.size w w') : ChainAt w' c m dp lp room h r bd cn L := ⟨H.blk.below hb H.blk.lt, fun i e he => (H.ents i e he).below hb (H.ents i e he).lt, H.nd⟩
theorem ChainAt.kept (H : ChainAt w c m dp lp room h r bd cn L) (hk : ∀ x, chfoot c L x → w'.heap[x]? = w.heap[x]?) : ChainAt w' c m dp lp room h r bd cn L := ⟨(hk c (.inl rfl)).trans H.blk, fun i e he => (hk e.b (.inr ⟨e, List.mem_of_getElem? he, rfl⟩)).trans (H.ents i e he), H.nd⟩
theorem ChainAt.lt (H : ChainAt w c m dp lp room h r bd cn L) (x : Nat) (hx : chfoot c L x) : x < w.heap.size := by
  rcases hx with rfl | ⟨e, he, rfl⟩
  · exact H.blk.lt
  · obtain ⟨i, hi⟩ := List.mem_iff_getElem?.1 he
    exact (H.ents i e hi).lt
theorem chain_erase (H : ChainAt w c m dp lp room h r bd cn L) (hi : L[i]? = some e)
    (hc : Blk w' c 133 (caC dp lp room m (if i = 0 then nextOf L 0 else headOf L) (if i + 1 = L.length then prevOf L i else lastOf L) h r bd cn))
    (hp : ∀ p, i ≠ 0 → L[i - 1]? = some p → Blk w' p.b 174 (enC p.k p.f (prevOf L (i - 1)) (nextOf L i)))
    (hn : ∀ q, L[i + 1]? = some q → Blk w' q.b 174 (enC q.k q.f (prevOf L i) (nextOf L (i + 1))))
    (ho : ∀ (j : Nat) (e' : En), L[j]? = some e' → j + 1 ≠ i → j ≠ i + 1 → j ≠ i → Blk w' e'.b 174 (enC e'.k e'.f (prevOf L j) (nextOf L j))) : ChainAt w' c m dp lp room h r bd cn (L.eraseIdx i) := by
  have hlt : i < L.length := (List.getElem?_eq_some_iff.1 hi).1
  have hlen : (L.eraseIdx i).length = L.length - 1 := by rw [List.length_eraseIdx, if_pos hlt]
  refine ⟨?_, fun j e' he' => ?_, fun a b x y hx hy hxy => ?_⟩
  · have h1 : headOf (L.eraseIdx i) = if i = 0 then nextOf L 0 else headOf L := by
      unfold headOf nextOf
      by_cases h0 : i = 0
      · rw [if_pos h0, er_ge L (by omega)]
      · rw [if_neg h0, er_lt L (by omega)]
    have h2 : lastOf (L.eraseIdx i) = if i + 1 = L.length then prevOf L i else lastOf L := by
      unfold lastOf
      rw [hlen]
      by_cases h0 : i + 1 = L.length
      · rw [if_pos h0, er_prev_le L (by omega), show L.length - 1 = i by omega]
      · rw [if_neg h0, er_prev_gt L (by omega), show L.length - 1 + 1 = L.length by omega]
    rw [h1, h2]
    exact hc
  · rcases Nat.lt_trichotomy (j + 1) i with h1 | h1 | h1
    · rw [er_prev_le L (by omega), er_next_lt L h1]
      rw [er_lt L (by omega)] at he'
      exact ho j e' he' (by omega) (by omega) (by omega)
    · rw [er_prev_le L (by omega), er_next_ge L (by omega), h1]
      rw [er_lt L (by omega), show j = i - 1 by omega] at he'
      rw [show j = i - 1 by omega]
      exact hp e' (by omega) he'
    · rw [er_ge L (by omega)] at he'
      by_cases h2 : j = i
      · subst h2
        rw [er_prev_le L (Nat.le_refl _), er_next_ge L (by omega)]
        exact hn e' he'
      · rw [er_prev_gt L (by omega), er_next_ge L (by omega)]
        exact ho (j + 1) e' he' (by omega) (by omega) (by omega)
  · rcases Nat.lt_or_ge a i with h1 | h1
    · rw [er_lt L h1] at hx
      rcases Nat.lt_or_ge b i with h2 | h2
      · rw [er_lt L h2] at hy
        exact H.nd a b x y hx hy hxy
      · rw [er_ge L h2] at hy
        have := H.nd a (b + 1) x y hx hy hxy
        omega
    · rw [er_ge L h1] at hx
      rcases Nat.lt_or_ge b i with h2 | h2
      · rw [er_lt L h2] at hy
        have := H.nd (a + 1) b x y hx hy hxy
        omega
      · rw [er_ge L h2] at hy
        have := H.nd (a + 1) (b + 1) x y hx hy hxy
        omega
theorem chain_snoc (H : ChainAt w c m dp lp room h r bd cn L)
    (hc : Blk w' c 133 (caC dp lp room m (if L.length = 0 then some (enA e) else headOf L) (some (enA e)) h r bd cn))
    (he : Blk w' e.b 174 (enC e.k e.f (lastOf L) none))
    (hl : ∀ p, L[L.length - 1]? = some p → Blk w' p.b 174 (enC p.k p.f (prevOf L (L.length - 1)) (some (enA e))))
    (ho : ∀ (j : Nat) (e' : En), L[j]? = some e' → j + 1 < L.length → Blk w' e'.b 174 (enC e'.k e'.f (prevOf L j) (nextOf L j)))
    (hne : ∀ (j : Nat) (e' : En), L[j]? = some e' → e'.b ≠ e.b) : ChainAt w' c m dp lp room h r bd cn (L ++ [e]) := by
  have ha : ∀ j, j < L.length → (L ++ [e])[j]? = L[j]? := fun j hj => List.getElem?_append_left hj
  have hb : (L ++ [e])[L.length]? = some e := by simp
  have hz : ∀ j, L.length < j → (L ++ [e])[j]? = none := fun j hj => List.getElem?_eq_none (by simp; omega)
  have hpv : ∀ j, j ≤ L.length → prevOf (L ++ [e]) j = prevOf L j := fun j hj => by
    unfold prevOf
    by_cases h0 : j = 0
    · rw [if_pos h0, if_pos h0]
    · rw [if_neg h0, if_neg h0, ha _ (by omega)]
  refine ⟨?_, fun j e' he' => ?_, fun i j x y hx hy hxy => ?_⟩
  · have h1 : headOf (L ++ [e]) = if L.length = 0 then some (enA e) else headOf L := by
      unfold headOf
      by_cases h0 : L.length = 0
      · rw [if_pos h0]
        have := hb
        rw [h0] at this
        rw [this]
        rfl
      · rw [if_neg h0, ha _ (by omega)]
    have h2 : lastOf (L ++ [e]) = some (enA e) := by
      unfold lastOf prevOf
      rw [if_neg (by simp), show (L ++ [e]).length - 1 = L.length by simp, hb]
      rfl
    rw [h1, h2]
    exact hc
  · rcases Nat.lt_trichotomy j L.length with h1 | h1 | h1
    · rw [ha j h1] at he'
      rw [hpv j (by omega)]
      by_cases h2 : j + 1 < L.length
      · rw [show nextOf (L ++ [e]) j = nextOf L j by unfold nextOf; rw [ha _ h2]]
        exact ho j e' he' h2
      · have h3 : j = L.length - 1 := by omega
        rw [show nextOf (L ++ [e]) j = some (enA e) by unfold nextOf; rw [show j + 1 = L.length by omega, hb]; rfl, h3]
        exact hl e' (h3 ▸ he')
    · subst h1
      rw [hb] at he'
      cases he'
      rw [hpv _ (Nat.le_refl _), show nextOf (L ++ [e]) L.length = none by unfold nextOf; rw [hz _ (by omega)]; rfl]
      exact he
    · rw [hz j h1] at he'
      cases he'
  · rcases Nat.lt_trichotomy i L.length with h1 | h1 | h1
    · rw [ha i h1] at hx
      rcases Nat.lt_trichotomy j L.length with h2 | h2 | h2
      · rw [ha j h2] at hy
        exact H.nd i j x y hx hy hxy
      · subst h2
        rw [hb] at hy
        cases hy
        exact absurd hxy (hne i x hx)
      · rw [hz j h2] at hy
        cases hy
    · subst h1
      rw [hb] at hx
      cases hx
      rcases Nat.lt_trichotomy j L.length with h2 | h2 | h2
      · rw [ha j h2] at hy
        exact absurd hxy.symm (hne j y hy)
      · exact h2.symm
      · rw [hz j h2] at hy
        cases hy
    · rw [hz i h1] at hx
      cases hx
end
end Go.Proofs.YtiofonffmplfmaaGreat

namespace Go.Proofs.YtiofonffmplfmaaGreat
open Go Go.RowKit
set_option linter.unusedSimpArgs false
set_option linter.unusedVariables false

section
variable {c m : Nat} {dp lp : Option Addr} {room h r bd cn : Int} {L : List En} {i : Nat} {e : En}
set_option maxHeartbeats 1000000 in
theorem unlink_at (hi : L[i]? = some e) (w : World) (H : ChainAt w c m dp lp room h r bd cn L) : Calls Tryz.prog 70 #[.pointer (some ⟨c, 3, none⟩), .pointer (some ⟨e.b, 0, none⟩)] w fun x w' => x = .returned (.tuple #[]) ∧ ChainAt w' c m dp lp room h r bd cn (L.eraseIdx i) ∧ Blk w' e.b 174 (enC e.k e.f (prevOf L i) (nextOf L i)) ∧ Turns (chfoot c L) w w' := by
  have hb := H.ents i e hi
  have hlt : i < L.length := (List.getElem?_eq_some_iff.1 hi).1
  have hE : ∀ (j : Nat) (e' : En), L[j]? = some e' → e'.b ≠ c := fun j e' hj => blk_neT (H.ents j e' hj) H.blk (by decide)
  have hD : ∀ (j j2 : Nat) (e' e2 : En), L[j]? = some e' → L[j2]? = some e2 → j ≠ j2 → e'.b ≠ e2.b := fun j j2 e' e2 h1 h2 hne heq => hne (H.nd j j2 e' e2 h1 h2 heq)
  have hF : ∀ (j : Nat) (e' : En), L[j]? = some e' → chfoot c L e'.b := fun j e' hj => .inr ⟨e', List.mem_of_getElem? hj, rfl⟩
  by_cases h0 : i = 0
  · cases hn : L[i + 1]? with
    | none =>
      have hpv : prevOf L i = none := by
        unfold prevOf
        rw [if_pos h0]
      have hnx : nextOf L i = none := by
        unfold nextOf
        rw [hn]
        rfl
      have hnl : i + 1 = L.length := by
        have := List.getElem?_eq_none_iff.1 hn
        omega
      rw [hpv, hnx] at hb ⊢
      refine (unlink_00 w H.blk hb).mono ?_
      rintro x w2 ⟨rfl, rfl⟩
      refine ⟨rfl, chain_erase H hi ?_ ?_ ?_ ?_, ?_, ?_⟩
      · rw [if_pos h0, if_pos hnl]
        have hn0 : nextOf L 0 = none := h0 ▸ hnx
        rw [hn0]
        rw [hpv]
        exact Blk.put (H.blk.put 4 _) 5 _
      · intro p' hne _
        exact absurd h0 hne
      · intro q' hq'
        rw [hn] at hq'
        cases hq'
      · intro j e' hj h1 h2 h3
        exact blk_setNo (blk_setNo (H.ents _ _ hj) (hE _ _ hj)) (hE _ _ hj)
      · exact blk_setNo (blk_setNo hb (hE _ _ hi)) (hE _ _ hi)
      · exact (turns_set (turns_set (turns_refl w) (.inl rfl)) (.inl rfl))
    | some q =>
      have hpv : prevOf L i = none := by
        unfold prevOf
        rw [if_pos h0]
      have hnx : nextOf L i = some ⟨q.b, 0, none⟩ := by
        unfold nextOf
        rw [hn]
        rfl
      have hnl : ¬ i + 1 = L.length := by
        have := (List.getElem?_eq_some_iff.1 hn).1
        omega
      rw [hpv, hnx] at hb ⊢
      refine (unlink_01 w H.blk hb (H.ents _ _ hn) (hD _ _ _ _ hi hn (by omega))).mono ?_
      rintro x w2 ⟨rfl, rfl⟩
      refine ⟨rfl, chain_erase H hi ?_ ?_ ?_ ?_, ?_, ?_⟩
      · rw [if_pos h0, if_neg hnl]
        have hn0 : nextOf L 0 = some ⟨q.b, 0, none⟩ := h0 ▸ hnx
        rw [hn0]
        exact blk_setNo (H.blk.put 4 _) (hE _ _ hn).symm
      · intro p' hne _
        exact absurd h0 hne
      · intro q' hq'
        rw [hn] at hq'
        cases hq'
        rw [hpv]
        exact en_putO (blk_setNo (H.ents _ _ hn) (hE _ _ hn)) _
      · intro j e' hj h1 h2 h3
        exact blk_setNo (blk_setNo (H.ents _ _ hj) (hE _ _ hj)) (hD _ _ _ _ hj hn (by omega))
      · exact blk_setNo (blk_setNo hb (hE _ _ hi)) (hD _ _ _ _ hi hn (by omega))
      · exact (turns_set (turns_set (turns_refl w) (.inl rfl)) (hF _ _ hn)).drew
  · obtain ⟨p, hp⟩ : ∃ p, L[i - 1]? = some p := ⟨_, List.getElem?_eq_getElem (by omega)⟩
    cases hn : L[i + 1]? with
    | none =>
      have hpv : prevOf L i = some ⟨p.b, 0, none⟩ := by
        unfold prevOf
        rw [if_neg h0, hp]
        rfl
      have hnx : nextOf L i = none := by
        unfold nextOf
        rw [hn]
        rfl
      have hnl : i + 1 = L.length := by
        have := List.getElem?_eq_none_iff.1 hn
        omega
      rw [hpv, hnx] at hb ⊢
      refine (unlink_10 w H.blk hb (H.ents _ _ hp) (hD _ _ _ _ hi hp (by omega))).mono ?_
      rintro x w2 ⟨rfl, rfl⟩
      refine ⟨rfl, chain_erase H hi ?_ ?_ ?_ ?_, ?_, ?_⟩
      · rw [if_neg h0, if_pos hnl]
        rw [hpv]
        exact Blk.put (blk_setNo H.blk (hE _ _ hp).symm) 5 _
      · intro p' _ hp'
        rw [hp] at hp'
        cases hp'
        rw [hnx]
        exact blk_setNo (en_putN (H.ents _ _ hp) _) (hE _ _ hp)
      · intro q' hq'
        rw [hn] at hq'
        cases hq'
      · intro j e' hj h1 h2 h3
        exact blk_setNo (blk_setNo (H.ents _ _ hj) (hD _ _ _ _ hj hp (by omega))) (hE _ _ hj)
      · exact blk_setNo (blk_setNo hb (hD _ _ _ _ hi hp (by omega))) (hE _ _ hi)
      · exact (turns_set (turns_set (turns_refl w) (hF _ _ hp)).drew (.inl rfl))
    | some q =>
      have hpv : prevOf L i = some ⟨p.b, 0, none⟩ := by
        unfold prevOf
        rw [if_neg h0, hp]
        rfl
      have hnx : nextOf L i = some ⟨q.b, 0, none⟩ := by
        unfold nextOf
        rw [hn]
        rfl
      have hnl : ¬ i + 1 = L.length := by
        have := (List.getElem?_eq_some_iff.1 hn).1
        omega
      rw [hpv, hnx] at hb ⊢
      refine (unlink_11 w H.blk hb (H.ents _ _ hp) (hD _ _ _ _ hi hp (by omega)) (H.ents _ _ hn) (hD _ _ _ _ hi hn (by omega)) (hD _ _ _ _ hn hp (by omega))).mono ?_
      rintro x w2 ⟨rfl, rfl⟩
      refine ⟨rfl, chain_erase H hi ?_ ?_ ?_ ?_, ?_, ?_⟩
      · rw [if_neg h0, if_neg hnl]
        exact blk_setNo (blk_setNo H.blk (hE _ _ hp).symm) (hE _ _ hn).symm
      · intro p' _ hp'
        rw [hp] at hp'
        cases hp'
        rw [hnx]
        exact blk_setNo (en_putN (H.ents _ _ hp) _) (hD _ _ _ _ hp hn (by omega))
      · intro q' hq'
        rw [hn] at hq'
        cases hq'
        rw [hpv]
        exact en_putO (blk_setNo (H.ents _ _ hn) (hD _ _ _ _ hn hp (by omega))) _
      · intro j e' hj h1 h2 h3
        exact blk_setNo (blk_setNo (H.ents _ _ hj) (hD _ _ _ _ hj hp (by omega))) (hD _ _ _ _ hj hn (by omega))
      · exact blk_setNo (blk_setNo hb (hD _ _ _ _ hi hp (by omega))) (hD _ _ _ _ hi hn (by omega))
      · exact (turns_set (turns_set (turns_refl w) (hF _ _ hp)).drew (hF _ _ hn)).drew
set_option maxHeartbeats 1000000 in
theorem link_at {o0 n0 : Option Addr} (hne : ∀ (j : Nat) (e' : En), L[j]? = some e' → e'.b ≠ e.b) (w : World) (H : ChainAt w c m dp lp room h r bd cn L) (hb : Blk w e.b 174 (enC e.k e.f o0 n0)) : Calls Tryz.prog 71 #[.pointer (some ⟨c, 3, none⟩), .pointer (some ⟨e.b, 0, none⟩)] w fun x w' => x = .returned (.tuple #[]) ∧ ChainAt w' c m dp lp room h r bd cn (L ++ [e]) ∧ Turns (fun x => chfoot c L x ∨ x = e.b) w w' := by
  have hE : ∀ (j : Nat) (e' : En), L[j]? = some e' → e'.b ≠ c := fun j e' hj => blk_neT (H.ents j e' hj) H.blk (by decide)
  have hD : ∀ (j j2 : Nat) (e' e2 : En), L[j]? = some e' → L[j2]? = some e2 → j ≠ j2 → e'.b ≠ e2.b := fun j j2 e' e2 h1 h2 hne heq => hne (H.nd j j2 e' e2 h1 h2 heq)
  have hbc : e.b ≠ c := blk_neT hb H.blk (by decide)
  cases hl : L[L.length - 1]? with
  | none =>
    have h0 : L.length = 0 := by
      have := List.getElem?_eq_none_iff.1 hl
      omega
    have hlast : lastOf L = none := by
      unfold lastOf prevOf
      rw [if_pos h0]
    have hg := H.blk
    rw [hlast] at hg
    refine (link_0 w hg hb).mono ?_
    rintro x w2 ⟨rfl, rfl⟩
    refine ⟨rfl, chain_snoc H ?_ ?_ ?_ ?_ hne, ?_⟩
    · rw [if_pos h0]
      exact Blk.put (Blk.put (blk_setNo (blk_setNo hg hbc.symm) hbc.symm) 4 _) 5 _
    · rw [hlast]
      exact blk_setNo (blk_setNo (en_putN (en_putO hb none) none) hbc) hbc
    · intro p hp
      rw [hl] at hp
      cases hp
    · intro j e' hj hlt
      omega
    · exact turns_set (turns_set (turns_set (turns_set (turns_refl w) (.inr rfl)) (.inr rfl)) (.inl (.inl rfl))) (.inl (.inl rfl))
  | some p =>
    have h0 : ¬ L.length = 0 := by
      have := (List.getElem?_eq_some_iff.1 hl).1
      omega
    have hlast : lastOf L = some ⟨p.b, 0, none⟩ := by
      unfold lastOf prevOf
      rw [if_neg h0, hl]
      rfl
    have hg := H.blk
    rw [hlast] at hg
    have hpe : p.b ≠ e.b := hne _ _ hl
    refine (link_1 w hg hb (H.ents _ _ hl) hpe.symm).mono ?_
    rintro x w2 ⟨rfl, rfl⟩
    refine ⟨rfl, chain_snoc H ?_ ?_ ?_ ?_ hne, ?_⟩
    · rw [if_neg h0]
      exact Blk.put (blk_setNo (blk_setNo (blk_setNo hg hbc.symm) hbc.symm) (hE _ _ hl).symm) 5 _
    · rw [hlast]
      exact blk_setNo (blk_setNo (en_putN (en_putO hb _) none) hpe.symm) hbc
    · intro p' hp'
      rw [hl] at hp'
      cases hp'
      exact blk_setNo (en_putN (blk_setNo (blk_setNo (H.ents _ _ hl) hpe) hpe) _) (hE _ _ hl)
    · intro j e' hj hlt
      have h1 : e'.b ≠ e.b := hne _ _ hj
      exact blk_setNo (blk_setNo (blk_setNo (blk_setNo (H.ents _ _ hj) h1) h1) (hD _ _ _ _ hj hl (by omega))) (hE _ _ hj)
    · exact turns_set (turns_set (turns_set (turns_set (turns_refl w) (.inr rfl)) (.inr rfl)) (.inl (.inr ⟨p, List.mem_of_getElem? hl, rfl⟩))) (.inl (.inl rfl))
end
end Go.Proofs.YtiofonffmplfmaaGreat
