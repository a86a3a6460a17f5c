/- A region that draws its order, by a plan: operations that are taken ahead, operations that are shown to yield, operations that are forced, and forks where two are ready. No program in it. -/
import Derived.Test.YtdniigefmlmcdabHCaTwo
import Derived.Deep.DeepCutAuto
import Derived.Deep.Cut
import Derived.Handy
import Derived.Test.YtdniigefmlmcdabHLogAdd

namespace Go.Proofs.Ytdniigefmlmcdab
open Go Go.RowKit
set_option linter.unusedSimpArgs false
set_option linter.unusedVariables false

set_option maxRecDepth 100000 in
theorem built_en (k : Rf) (f : Nat → Nat) : Try.prog.built 95 [(0, .agg (rfC k)), (1, .agg (va 256 (iv .u8 f)))] = some (enC k f none none) := by kernel_rfl
/-- a block in which nothing is turned -/
theorem Turns.blk {S : Nat → Prop} {w w' : World} (h : Turns S w w') {b t : Nat} {cs : Array Value} (hb : Blk w b t cs) (hn : ¬ S b) : Blk w' b t cs := (h.block b hb.lt hn).trans hb
theorem Turns.of_keeps {w w' : World} {m : Nat} (h : Keeps m w w') : Turns (fun x => x = m) w w' := ⟨h.1.os, h.1.tape, h.1.output, h.1.size, fun b hb hf => h.2 b hf hb⟩
section
variable {c m : Nat} {dp lp o n : Option Addr} {room h r bd cn : Int}
set_option maxRecDepth 100000 in
set_option maxHeartbeats 4000000 in
theorem put_first (k : Rf) (f : Nat → Nat) (w : World) (hg : Blk w c 75 (caC dp lp room m o none h r bd cn)) (hm : MapIs rfV ptV w m []) : Calls Try.prog 34 #[.pointer (some ⟨c, 3, none⟩), .agg (rfC k), .agg (va 256 (iv .u8 f))] w fun e w' => e = .returned (.tuple #[]) ∧ ∃ b, w.heap.size ≤ b ∧ Blk w' c 75 (caC dp lp room m (some ⟨b, 0, none⟩) (some ⟨b, 0, none⟩) h r bd cn) ∧ Blk w' b 95 (enC k f none none) ∧ MapIs rfV ptV w' m [(k, b)] ∧ Turns (two c m) w w' := by
  have hb1 : Below w.heap.size w ((w.alloc (.cells (rfC k) 35)).alloc (.cells (va 256 (iv .u8 f)) 23)) := below_new2 _ _ _
  have r1 : Blk ((w.alloc (.cells (rfC k) 35)).alloc (.cells (va 256 (iv .u8 f)) 23)) w.heap.size 35 (rfC k) := (Blk.new _ _ _).alloc _
  have k1 : Blk ((w.alloc (.cells (rfC k) 35)).alloc (.cells (va 256 (iv .u8 f)) 23)) (w.heap.size + 1) 23 (va 256 (iv .u8 f)) := Blk.new1 _ _ _ _
  have HG1 : Hid (Blk ((w.alloc (.cells (rfC k) 35)).alloc (.cells (va 256 (iv .u8 f)) 23)) c 75 (caC dp lp room m o none h r bd cn)) := hg.below hb1 hg.lt
  have HM1 : Hid (MapIs rfV ptV ((w.alloc (.cells (rfC k) 35)).alloc (.cells (va 256 (iv .u8 f)) 23)) m []) := hm.below hb1 hm.lt
  have hDr : Hid (∀ w : World, Blk w c 75 (caC dp lp room m o none h r bd cn) → MapIs rfV ptV w m [] → Calls Try.prog 28 #[.pointer (some ⟨c, 3, none⟩), .agg (rfC k)] w fun e w' => e = .returned (.tuple #[]) ∧ Below w.heap.size w w') := fun w h1 h2 => drop_none k [] rfl w h1 h2
  have hLk : Hid (∀ (b : Nat) (w : World), b ≠ c → Blk w c 75 (caC dp lp room m o none h r bd cn) → Blk w b 95 (enC k f none none) → Calls Try.prog 44 #[.pointer (some ⟨c, 3, none⟩), .pointer (some ⟨b, 0, none⟩)] w fun e w' => e = .returned (.tuple #[]) ∧ Blk w' c 75 (caC dp lp room m (some ⟨b, 0, none⟩) (some ⟨b, 0, none⟩) h r bd cn) ∧ Blk w' b 95 (enC k f none none) ∧ Turns (two c b) w w') := fun b w h1 h2 h3 => link_first h1 w h2 h3
  have hBT : Hid (Try.prog.built 95 [(0, .agg (rfC k)), (1, .agg (va 256 (iv .u8 f)))] = some (enC k f none none)) := built_en k f
  have HLT : Hid (c < w.heap.size ∧ m < w.heap.size) := ⟨hg.lt, hm.lt⟩
  clear hg hm
  go_enter Try.func34, Try.ntmps34
  go_wp2_with (first
    | (refine wpList_load_rowg (by rfl) 35 _ (by rfl) (w.heap.size) (by rfl) 35 (rfC k) (0, 0) _ (by exact r1) Try.underlying35 (by rfl) (slSizeRef.trans (by rw [rfC_size])) ?_; simp only [Act.put, List.setIfInBounds_toArray, List.set_cons_zero, List.set_cons_succ])
    | fail)
  generalize ((w.alloc (.cells (rfC k) 35)).alloc (.cells (va 256 (iv .u8 f)) 23)) = w1 at *
  refine (hDr.out _ HG1.out HM1.out).mono ?_
  rintro e w2 ⟨rfl, hb⟩
  have r2 := r1.below hb r1.lt
  have k2 := k1.below hb k1.lt
  have HG2 : Hid (Blk w2 c 75 (caC dp lp room m o none h r bd cn)) := HG1.out.below hb HG1.out.lt
  have HM2 : Hid (MapIs rfV ptV w2 m []) := HM1.out.below hb HM1.out.lt
  have hb2 : Below w.heap.size w w2 := hb1.trans (hb.mono hb1.size)
  clear hb r1 k1 HG1 HM1 hb1 hDr
  have hb3 : Below w2.heap.size w2 (w2.alloc (.cells (enC k f none none) 95)) := below_new1 _ _
  have r3 : Blk (w2.alloc (.cells (enC k f none none) 95)) w.heap.size 35 (rfC k) := r2.alloc _
  have HG3 : Hid (Blk (w2.alloc (.cells (enC k f none none) 95)) c 75 (caC dp lp room m o none h r bd cn)) := HG2.out.below hb3 HG2.out.lt
  have HM3 : Hid (MapIs rfV ptV (w2.alloc (.cells (enC k f none none) 95)) m []) := HM2.out.below hb3 HM2.out.lt
  have HE3 : Hid (Blk (w2.alloc (.cells (enC k f none none) 95)) w2.heap.size 95 (enC k f none none)) := Blk.new _ _ _
  have HB3 : Hid (Below w.heap.size w (w2.alloc (.cells (enC k f none none) 95))) := hb2.trans (hb3.mono hb2.size)
  have c33 : (w2.alloc (.cells (enC k f none none) 95)).cell? ⟨c, 3, none⟩ = some (.map (some m)) := by
    rw [HG3.out.cell]
    rfl
  have HSZ : Hid (w.heap.size ≤ w2.heap.size) := hb2.size
  clear hb3
  go_wp2_with (first
    | (refine wpList_load_rowg (by rfl) 35 _ (by rfl) (w.heap.size) (by rfl) 35 (rfC k) (0, 0) _ (by exact r2) Try.underlying35 (by rfl) (slSizeRef.trans (by rw [rfC_size])) ?_; simp only [Act.put, List.setIfInBounds_toArray, List.set_cons_zero, List.set_cons_succ])
    | (refine wpList_load_row (by rfl) 23 _ (by rfl) (w.heap.size + 1) (by rfl) 23 (va 256 (iv .u8 f)) (0, 0) _ k2 Try.underlying23 (by rfl) (sizeBk.trans (by rw [va_size])) ?_; simp only [Act.put, List.setIfInBounds_toArray, List.set_cons_zero, List.set_cons_succ])
    | (refine ca_build2 (by rfl) 95 _ _ (by rfl) (.agg (rfC k)) (.agg (va 256 (iv .u8 f))) (by rfl) (by rfl) (enC k f none none) (by exact hBT.out) ?_; simp only [Act.put, List.setIfInBounds_toArray, List.set_cons_zero, List.set_cons_succ])
    | fail)
  clear r2 k2 HG2 HM2 hb2 hBT
  generalize hB0 : w2.heap.size = b at *
  generalize (w2.alloc (.cells (enC k f none none) 95)) = w3 at *
  clear hB0
  obtain ⟨w4, hup, hmap4, hk4⟩ := run_update_is Try.underlying67 ref_key (HM3.out.of (w' := w3.drew) rfl) k b rfl
  have hup : (Instr.mapUpdate 67 (.map (some m)) (.agg (rfC k)) (.pointer (some ⟨b, 0, none⟩))).run Try.prog w3.drew = .ok () w4 := hup
  have HM4 : Hid (MapIs rfV ptV w4 m [(k, b)]) := hmap4
  have HK4 : Hid (Keeps m w3 w4) := ⟨⟨hk4.1.os, hk4.1.tape, hk4.1.output, hk4.1.size, hk4.1.block⟩, hk4.2⟩
  have HG4 : Hid (Blk w4 c 75 (caC dp lp room m o none h r bd cn)) := (HK4.out.2 c (Ne.symm (HM3.out.ne HG3.out)) HG3.out.lt).trans HG3.out
  have HE4 : Hid (Blk w4 b 95 (enC k f none none)) := (HK4.out.2 b (Ne.symm (HM3.out.ne HE3.out)) HE3.out.lt).trans HE3.out
  have c34 : w4.cell? ⟨c, 3, none⟩ = some (.map (some m)) := by
    rw [HG4.out.cell]
    rfl
  clear hmap4 hk4
  refine wp_region_partsS (fun W => W.cell? ⟨c, 3, none⟩ = some (.map (some m))) [([0, 5], 1, true), ([], 2, true), ([], 3, true), ([], 4, false), ([], 6, false)] [] [] (by kernel_rfl) (by kernel_rfl) c33 (partsI_yield ?_)
  simp only [List.cons_append, List.nil_append, List.append_nil, List.filterMap_cons, List.filterMap_nil, List.getElem?_toArray, List.getElem?_cons_zero, List.getElem?_cons_succ]
  go_wp2_with fail
  refine ⟨rfl, _, .pointer (some ⟨c, 3, none⟩), rfl, Or.inl ⟨by rfl, fun W hW => by go_simp⟩, partsI_yield ?_⟩
  simp only [Act.put, List.setIfInBounds_toArray, List.set_cons_zero, List.set_cons_succ]
  simp only [List.cons_append, List.nil_append, List.append_nil, List.filterMap_cons, List.filterMap_nil, List.getElem?_toArray, List.getElem?_cons_zero, List.getElem?_cons_succ]
  go_wp2_with fail
  refine ⟨rfl, _, .pointer (some ⟨c, 3, none⟩), rfl, Or.inl ⟨by rfl, fun W hW => by go_simp⟩, partsI_yield ?_⟩
  simp only [Act.put, List.setIfInBounds_toArray, List.set_cons_zero, List.set_cons_succ]
  simp only [List.cons_append, List.nil_append, List.append_nil, List.filterMap_cons, List.filterMap_nil, List.getElem?_toArray, List.getElem?_cons_zero, List.getElem?_cons_succ]
  go_wp2_with fail
  refine ⟨rfl, _, .map (some m), rfl, Or.inl ⟨by rfl, fun W hW => by go_simp⟩, partsI_force ?_⟩
  simp only [Act.put, List.setIfInBounds_toArray, List.set_cons_zero, List.set_cons_succ]
  simp only [List.cons_append, List.nil_append, List.append_nil, List.filterMap_cons, List.filterMap_nil, List.getElem?_toArray, List.getElem?_cons_zero, List.getElem?_cons_succ]
  refine wpList_load_rowg (by rfl) 35 _ (by rfl) w.heap.size (by rfl) 35 (rfC k) (0, 0) _ r3.drew Try.underlying35 (by rfl) (slSizeRef.trans (by rw [rfC_size])) ?_
  simp only [Act.put, List.setIfInBounds_toArray, List.set_cons_zero, List.set_cons_succ]
  go_wp2_with fail
  refine ⟨rfl, c33, partsI_force ?_⟩
  simp only [List.cons_append, List.nil_append, List.append_nil, List.filterMap_cons, List.filterMap_nil, List.getElem?_toArray, List.getElem?_cons_zero, List.getElem?_cons_succ]
  go_wp2_with fail
  refine ⟨rfl, c34, partsI_last ?_⟩
  simp only [List.cons_append, List.nil_append, List.append_nil, List.filterMap_cons, List.filterMap_nil, List.getElem?_toArray, List.getElem?_cons_zero, List.getElem?_cons_succ]
  go_wp2_with fail
  refine ⟨rfl, ?_⟩
  go_wp2_with fail
  refine (hLk.out b w4 (by have := HLT.out; have := HSZ.out; omega) HG4.out HE4.out).mono ?_
  rintro e w5 ⟨rfl, hg5, he5, ht5⟩
  have HG5 : Hid (Blk w5 c 75 (caC dp lp room m (some ⟨b, 0, none⟩) (some ⟨b, 0, none⟩) h r bd cn)) := hg5
  have HE5 : Hid (Blk w5 b 95 (enC k f none none)) := he5
  have HT5 : Hid (Turns (two c b) w4 w5) := ht5
  clear hg5 he5 ht5 c34 c33 hup
  go_wp2_with fail
  try simp only [Exit.inBlock, Exit.then]
  first
    | refine bodyPost_end (results_none Try.results34 _ _ _) rfl ?_
    | refine bodyPost_ret (results_none Try.results34 _ _ _) rfl ?_
  have hlt := HLT.out
  have hsz := HSZ.out
  have t1 : Turns (two c m) w w4 := ⟨?_, ?_, ?_, ?_, ?_⟩
  refine ⟨rfl, b, hsz, HG5.out, HE5.out, HM4.out.of (HT5.out.block m HM4.out.lt ?_), ?_⟩
  · intro e
    rcases e with e | e
    · have := HM4.out.ne HG4.out
      omega
    · omega
  · exact Turns.trans (S := two c m) (T := two c b) t1 HT5.out fun x hx => by
      rcases hx with e | e
      · exact .inl (.inl e)
      · exact .inr (by omega)
  · exact HK4.out.1.os.trans HB3.out.os
  · exact HK4.out.1.tape.trans HB3.out.tape
  · exact HK4.out.1.output.trans HB3.out.output
  · exact Nat.le_trans HB3.out.size HK4.out.1.size
  · intro x hx hf
    exact (HK4.out.2 x (fun e => hf (.inr e)) (Nat.lt_of_lt_of_le hx HB3.out.size)).trans (HB3.out.block x hx)
set_option maxRecDepth 100000 in
set_option maxHeartbeats 4000000 in
theorem keep_first (hr : 1 ≤ room) (k : Rf) (f : Nat → Nat) (w : World) (hg : Blk w c 75 (caC dp lp room m o none h r bd cn)) (hm : MapIs rfV ptV w m []) : Calls Try.prog 22 #[.pointer (some ⟨c, 0, none⟩), .agg (rfC k), .agg (va 256 (iv .u8 f))] w fun e w' => e = .returned (.tuple #[]) ∧ ∃ b, w.heap.size ≤ b ∧ Blk w' c 75 (caC dp lp room m (some ⟨b, 0, none⟩) (some ⟨b, 0, none⟩) h r bd cn) ∧ Blk w' b 95 (enC k f none none) ∧ MapIs rfV ptV w' m [(k, b)] ∧ Turns (two c m) w w' := by
  have hb1 : Below w.heap.size w ((w.alloc (.cells (rfC k) 35)).alloc (.cells (va 256 (iv .u8 f)) 23)) := below_new2 _ _ _
  have r1 : Blk ((w.alloc (.cells (rfC k) 35)).alloc (.cells (va 256 (iv .u8 f)) 23)) w.heap.size 35 (rfC k) := (Blk.new _ _ _).alloc _
  have k1 : Blk ((w.alloc (.cells (rfC k) 35)).alloc (.cells (va 256 (iv .u8 f)) 23)) (w.heap.size + 1) 23 (va 256 (iv .u8 f)) := Blk.new1 _ _ _ _
  have k1d : Blk ((w.alloc (.cells (rfC k) 35)).alloc (.cells (va 256 (iv .u8 f)) 23)).drew (w.heap.size + 1) 23 (va 256 (iv .u8 f)) := k1
  have HG1d : Hid (Blk ((w.alloc (.cells (rfC k) 35)).alloc (.cells (va 256 (iv .u8 f)) 23)).drew c 75 (caC dp lp room m o none h r bd cn)) := hg.below hb1.drew hg.lt
  have HM1d : Hid (MapIs rfV ptV ((w.alloc (.cells (rfC k) 35)).alloc (.cells (va 256 (iv .u8 f)) 23)).drew m []) := (hm.below hb1 hm.lt).of rfl
  have hPt : Hid (∀ w : World, Blk w c 75 (caC dp lp room m o none h r bd cn) → MapIs rfV ptV w m [] → Calls Try.prog 34 #[.pointer (some ⟨c, 3, none⟩), .agg (rfC k), .agg (va 256 (iv .u8 f))] w fun e w' => e = .returned (.tuple #[]) ∧ ∃ b, w.heap.size ≤ b ∧ Blk w' c 75 (caC dp lp room m (some ⟨b, 0, none⟩) (some ⟨b, 0, none⟩) h r bd cn) ∧ Blk w' b 95 (enC k f none none) ∧ MapIs rfV ptV w' m [(k, b)] ∧ Turns (two c m) w w') := fun w h1 h2 => put_first k f w h1 h2
  have hTr : Hid (∀ (b : Nat) (w : World), Blk w c 75 (caC dp lp room m (some ⟨b, 0, none⟩) (some ⟨b, 0, none⟩) h r bd cn) → MapIs rfV ptV w m [(k, b)] → Calls Try.prog 29 #[.pointer (some ⟨c, 3, none⟩), .int .i64 room] w fun e w' => e = .returned (.tuple #[]) ∧ w = w') := fun b w h1 h2 => trim_ok room [(k, b)] (by simpa using hr) w h1 h2
  have HLT : Hid (c < w.heap.size ∧ m < w.heap.size) := ⟨hg.lt, hm.lt⟩
  clear hg hm hr
  go_enter Try.func22, Try.ntmps22
  go_wp2_with fail
  have HS1 : Hid (w.heap.size + 2 ≤ ((w.alloc (.cells (rfC k) 35)).alloc (.cells (va 256 (iv .u8 f)) 23)).heap.size) := by
    show _ ≤ _
    simp
  have HB1 : Hid (Below w.heap.size w ((w.alloc (.cells (rfC k) 35)).alloc (.cells (va 256 (iv .u8 f)) 23)).drew) := hb1.drew
  clear hb1 k1
  generalize ((w.alloc (.cells (rfC k) 35)).alloc (.cells (va 256 (iv .u8 f)) 23)) = w1 at *
  refine wp_region_partsS (fun W => Blk W w.heap.size 35 (rfC k)) [([0], 1, true), ([], 2, true), ([], 3, true), ([], 4, false), ([], 5, false)] [] [] (by kernel_rfl) (by kernel_rfl) r1 (partsI_yield ?_)
  simp only [List.cons_append, List.nil_append, List.append_nil, List.filterMap_cons, List.filterMap_nil, List.getElem?_toArray, List.getElem?_cons_zero, List.getElem?_cons_succ]
  go_wp2_with fail
  refine ⟨rfl, _, .pointer (some ⟨c, 0, none⟩), rfl, Or.inl ⟨by rfl, fun W hW => by go_simp⟩, partsI_yield ?_⟩
  simp only [Act.put, List.setIfInBounds_toArray, List.set_cons_zero, List.set_cons_succ]
  simp only [List.cons_append, List.nil_append, List.append_nil, List.filterMap_cons, List.filterMap_nil, List.getElem?_toArray, List.getElem?_cons_zero, List.getElem?_cons_succ]
  go_wp2_with fail
  refine ⟨rfl, _, .pointer (some ⟨c, 3, none⟩), rfl, Or.inl ⟨by rfl, fun W hW => by go_simp⟩, partsI_yield ?_⟩
  simp only [Act.put, List.setIfInBounds_toArray, List.set_cons_zero, List.set_cons_succ]
  simp only [List.cons_append, List.nil_append, List.append_nil, List.filterMap_cons, List.filterMap_nil, List.getElem?_toArray, List.getElem?_cons_zero, List.getElem?_cons_succ]
  go_wp2_with fail
  refine ⟨rfl, _, .agg (rfC k), rfl, kyields_load (by rfl) 35 _ (by rfl) w.heap.size 33 (rfF k.1 k.2) (by rfl) _ 35 (fun W hW => hW) Try.underlying35 rfl slSizeRef, partsI_force ?_⟩
  simp only [Act.put, List.setIfInBounds_toArray, List.set_cons_zero, List.set_cons_succ]
  simp only [List.cons_append, List.nil_append, List.append_nil, List.filterMap_cons, List.filterMap_nil, List.getElem?_toArray, List.getElem?_cons_zero, List.getElem?_cons_succ]
  refine wpList_load_rowg (by rfl) 23 _ (by rfl) (w.heap.size + 1) (by rfl) 23 (va 256 (iv .u8 f)) (0, 0) _ k1d Try.underlying23 (by rfl) (sizeBk.trans (by rw [va_size])) ?_
  simp only [Act.put, List.setIfInBounds_toArray, List.set_cons_zero, List.set_cons_succ]
  go_wp2_with fail
  refine ⟨rfl, r1, partsI_force ?_⟩
  simp only [List.cons_append, List.nil_append, List.append_nil, List.filterMap_cons, List.filterMap_nil, List.getElem?_toArray, List.getElem?_cons_zero, List.getElem?_cons_succ]
  go_wp2_with fail
  refine (hPt.out _ HG1d.out HM1d.out).mono ?_
  rintro e w2 ⟨rfl, b, hb2, hg2, he2, hm2, ht2⟩
  have HG2 : Hid (Blk w2 c 75 (caC dp lp room m (some ⟨b, 0, none⟩) (some ⟨b, 0, none⟩) h r bd cn)) := hg2
  have HE2 : Hid (Blk w2 b 95 (enC k f none none)) := he2
  have HM2 : Hid (MapIs rfV ptV w2 m [(k, b)]) := hm2
  have HT2 : Hid (Turns (two c m) w1.drew w2) := ht2
  have HBB : Hid (w1.heap.size ≤ b) := hb2
  have r2 : Blk w2 w.heap.size 35 (rfC k) := ht2.blk r1 (fun e => by have := HLT.out; rcases e with e | e <;> omega)
  clear hg2 he2 hm2 ht2 hb2
  go_wp2_with fail
  refine ⟨rfl, r2, partsI_last ?_⟩
  simp only [List.cons_append, List.nil_append, List.append_nil, List.filterMap_cons, List.filterMap_nil, List.getElem?_toArray, List.getElem?_cons_zero, List.getElem?_cons_succ]
  go_wp2_with fail
  refine ⟨rfl, ?_⟩
  clear r1 k1d HG1d HM1d hPt r2
  have c22 : w2.cell? ⟨c, 2, none⟩ = some (.int .i64 room) := by
    rw [HG2.out.cell]
    rfl
  have HG2d : Hid (Blk w2.drew c 75 (caC dp lp room m (some ⟨b, 0, none⟩) (some ⟨b, 0, none⟩) h r bd cn)) := HG2.out
  have HM2d : Hid (MapIs rfV ptV w2.drew m [(k, b)]) := HM2.out.of rfl
  go_wp2_with fail
  refine wp_region_partsS (fun W => W.cell? ⟨c, 2, none⟩ = some (.int .i64 room)) [([0, 3], 1, true), ([], 2, true), ([], 4, false), ([], 5, false), ([], 6, false), ([], 7, false)] [] [] (by kernel_rfl) (by kernel_rfl) c22 (partsI_yield ?_)
  simp only [List.cons_append, List.nil_append, List.append_nil, List.filterMap_cons, List.filterMap_nil, List.getElem?_toArray, List.getElem?_cons_zero, List.getElem?_cons_succ]
  go_wp2_with fail
  refine ⟨rfl, _, .pointer (some ⟨c, 0, none⟩), rfl, Or.inl ⟨by rfl, fun W hW => by go_simp⟩, partsI_yield ?_⟩
  simp only [Act.put, List.setIfInBounds_toArray, List.set_cons_zero, List.set_cons_succ]
  simp only [List.cons_append, List.nil_append, List.append_nil, List.filterMap_cons, List.filterMap_nil, List.getElem?_toArray, List.getElem?_cons_zero, List.getElem?_cons_succ]
  go_wp2_with fail
  refine ⟨rfl, _, .pointer (some ⟨c, 3, none⟩), rfl, Or.inl ⟨by rfl, fun W hW => by go_simp⟩, partsI_force ?_⟩
  simp only [Act.put, List.setIfInBounds_toArray, List.set_cons_zero, List.set_cons_succ]
  simp only [List.cons_append, List.nil_append, List.append_nil, List.filterMap_cons, List.filterMap_nil, List.getElem?_toArray, List.getElem?_cons_zero, List.getElem?_cons_succ]
  go_wp2_with fail
  refine ⟨rfl, c22, partsI_force ?_⟩
  simp only [List.cons_append, List.nil_append, List.append_nil, List.filterMap_cons, List.filterMap_nil, List.getElem?_toArray, List.getElem?_cons_zero, List.getElem?_cons_succ]
  go_wp2_with fail
  refine ⟨rfl, c22, partsI_force ?_⟩
  simp only [List.cons_append, List.nil_append, List.append_nil, List.filterMap_cons, List.filterMap_nil, List.getElem?_toArray, List.getElem?_cons_zero, List.getElem?_cons_succ]
  go_wp2_with fail
  refine ⟨rfl, c22, partsI_force ?_⟩
  simp only [List.cons_append, List.nil_append, List.append_nil, List.filterMap_cons, List.filterMap_nil, List.getElem?_toArray, List.getElem?_cons_zero, List.getElem?_cons_succ]
  go_wp2_with fail
  refine (hTr.out b _ HG2d.out HM2d.out).mono ?_
  rintro e _ ⟨rfl, rfl⟩
  go_wp2_with fail
  refine ⟨rfl, c22, partsI_last ?_⟩
  simp only [List.cons_append, List.nil_append, List.append_nil, List.filterMap_cons, List.filterMap_nil, List.getElem?_toArray, List.getElem?_cons_zero, List.getElem?_cons_succ]
  go_wp2_with fail
  refine ⟨rfl, ?_⟩
  go_wp2_with fail
  try simp only [Exit.inBlock, Exit.then]
  first
    | refine bodyPost_end (results_none Try.results22 _ _ _) rfl ?_
    | refine bodyPost_ret (results_none Try.results22 _ _ _) rfl ?_
  refine ⟨rfl, b, Nat.le_trans HB1.out.size HBB.out, HG2d.out, HE2.out, HM2d.out, ?_⟩
  have t0 : Turns (two c m) w w1.drew := ⟨HB1.out.os, HB1.out.tape, HB1.out.output, HB1.out.size, fun x hx _ => HB1.out.block x hx⟩
  exact (t0.trans HT2.out fun x hx => .inl hx).drew
end
end Go.Proofs.Ytdniigefmlmcdab

namespace Go.Proofs.Ytdniigefmlmcdab
open Go Go.RowKit

/-- the plan of a region's walk -/
inductive Plan where
  | fin (takes : List Nat)
  | force (ts : List Nat) (i : Nat) (next : Plan)
  | yield (ts : List Nat) (i : Nat) (next : Plan)
  | fork (i j : Nat) (p q : Plan)
def Plan.len : Plan → Nat
  | .fin takes => takes.length
  | .force ts _ p => ts.length + (1 + p.len)
  | .yield ts _ p => ts.length + (1 + p.len)
  | .fork _ _ p _ => p.len + 1
/-- the check -/
def Plan.ok (ops : Array Oper) : Plan → Array Bool → Bool
  | .fin takes, listed => match takesB .any ops [] [] takes listed with
    | some l => (Region.ready .any ops l).isEmpty
    | none => false
  | .force ts i p, listed => match takesB .any ops [] [] ts listed with
    | some l => forceW .any ops l i && p.ok ops (l.setIfInBounds i true)
    | none => false
  | .yield ts i p, listed => match takesB .any ops [] [] ts listed with
    | some l => yieldW .any ops l [] i && p.ok ops (l.setIfInBounds i true)
    | none => false
  | .fork i j p q, listed => Region.ready .any ops listed == [i, j] && (ops[i]?).isSome && (ops[j]?).isSome && p.len == q.len && p.ok ops (listed.setIfInBounds i true) && q.ok ops (listed.setIfInBounds j true)
def Plan.whole (ops : Array Oper) (p : Plan) : Bool := p.len == ops.size && Region.noSelect ops && p.ok ops (Array.replicate ops.size false)
section
variable {P : Program} {ops : Array Oper} {Q : Exit → Act → World → Prop} {S : World → Prop}
/-- the walk -/
def wpPlan (P : Program) (ops : Array Oper) (Q : Exit → Act → World → Prop) (S : World → Prop) : Plan → Act → World → Prop
  | .fin takes, a, w => wpList P ops (Strict Q) (takes.filterMap fun i => ops[i]?) a w
  | .force ts i p, a, w => wpList P ops (Strict fun _ a' w' => S w' ∧ wpPlan P ops Q S p a' w') ((ts ++ [i]).filterMap fun i => ops[i]?) a w
  | .yield ts i p, a, w => wpList P ops (Strict fun _ a' w' => ∃ o v, ops[i]? = some o ∧ YieldsIf P ops S o v a' ∧ wpPlan P ops Q S p (a'.put o.dst v) w') ((ts ++ []).filterMap fun i => ops[i]?) a w
  | .fork i j p q, a, w => wpList P ops (Strict fun _ a' w' => S w' ∧ wpPlan P ops Q S p a' w') ([i].filterMap fun i => ops[i]?) a w ∧ wpList P ops (Strict fun _ a' w' => S w' ∧ wpPlan P ops Q S q a' w') ([j].filterMap fun i => ops[i]?) a w
theorem plan_step (hs : Region.noSelect ops = true) : ∀ (p : Plan) (listed : Array Bool) (a : Act) (w : World), p.ok ops listed = true → S w →
      wpPlan P ops Q S p a w → wpAnyW P .any ops (Strict Q) S (([] : List Nat).contains ·) p.len listed a w
  | .fin takes, listed, a, w, hb, hS, h => by
    unfold Plan.ok at hb
    split at hb
    · rename_i l2 hl2
      have h2 : wpList P ops (Strict Q) ((takes ++ []).filterMap fun i => ops[i]?) a w := by
        rw [List.append_nil]
        exact h
      exact takesS_step hs [] 0 Q takes listed l2 a w hl2 (fun a' w' _ h' => ⟨by simpa using hb, h'⟩) hS h2
    · cases hb
  | .force ts i p, listed, a, w, hb, hS, h => by
    unfold Plan.ok at hb
    split at hb
    · rename_i l2 hl2
      simp only [Bool.and_eq_true] at hb
      refine takesS_step hs [i] _ _ ts listed l2 a w hl2 (fun a' w' _ h' => ?_) hS h
      obtain ⟨o, ho⟩ := has_op' hb.1
      rw [Nat.add_comm 1]
      refine forceS_step hb.1 (wpOp_mono (fun a2 w2 h2 => ?_) (wpOp_strict (wpList_one ho h')))
      have h3 := h2.2
      exact ⟨fun _ => h3.1, plan_step hs p _ a2 w2 hb.2 h3.1 h3.2⟩
    · cases hb
  | .yield ts i p, listed, a, w, hb, hS, h => by
    unfold Plan.ok at hb
    split at hb
    · rename_i l2 hl2
      simp only [Bool.and_eq_true] at hb
      refine takesS_step hs [] _ _ ts listed l2 a w hl2 (fun a' w' hS' h' => ?_) hS h
      obtain ⟨-, o, v, ho, hy, hn⟩ := h'
      have hc := hb.1
      unfold yieldW at hc
      rw [ho] at hc
      simp only [Bool.and_eq_true, Bool.not_eq_true'] at hc
      rw [Nat.add_comm 1]
      exact takeS_gen hs ho hc.1.1.1 hc.1.1.2 hc.1.2 hc.2 hy hS' (plan_step hs p _ _ w' hb.2 hS' hn)
    · cases hb
  | .fork i j p q, listed, a, w, hb, hS, h => by
    simp only [Plan.ok, Bool.and_eq_true, beq_iff_eq] at hb
    obtain ⟨⟨⟨⟨⟨hr, hi⟩, hj⟩, hl⟩, hp⟩, hq⟩ := hb
    refine ⟨fun h0 => (by rw [h0] at hr; cases hr), fun x hx => ?_⟩
    rw [hr] at hx
    have hx2 : x = i ∨ x = j := by simpa using hx
    rcases hx2 with rfl | rfl
    · obtain ⟨o, ho⟩ := Option.isSome_iff_exists.1 hi
      refine wpOp_mono (fun a' w' h' => ?_) (wpOp_strict (wpList_one ho h.1))
      exact ⟨fun _ => h'.2.1, plan_step hs p _ a' w' hp h'.2.1 h'.2.2⟩
    · obtain ⟨o, ho⟩ := Option.isSome_iff_exists.1 hj
      refine wpOp_mono (fun a' w' h' => ?_) (wpOp_strict (wpList_one ho h.2))
      have := plan_step hs q _ a' w' hq h'.2.1 h'.2.2
      rw [← hl] at this
      exact ⟨fun _ => h'.2.1, this⟩
/-- THE LAW. -/
theorem wp_region_plan {id : Nat} {a : Act} {w : World} (S : World → Prop) (p : Plan) (hm : P.follows .mixedOrders = true) (hB : p.whole ops = true)
    (hS : S w.drew) (h : wpPlan P ops Q S p a w.drew) : (Code.region id ops true).wp P Q a w := by
  unfold Plan.whole at hB
  simp only [Bool.and_eq_true, beq_iff_eq] at hB
  refine Code.wp_mono Strict.imp (wp_region_any hm ?_)
  rw [← hB.1.1]
  exact wpAny_of_W _ _ _ _ (plan_step hB.1.2 p _ a _ (by rw [hB.1.1]; exact hB.2) hS h)
theorem plan_force {ts : List Nat} {i : Nat} {p : Plan} {a : Act} {w : World}
    (h : wpList P ops (Strict fun _ a' w' => S w' ∧ wpPlan P ops Q S p a' w') ((ts ++ [i]).filterMap fun i => ops[i]?) a w) : wpPlan P ops Q S (.force ts i p) a w := h
theorem plan_yield {ts : List Nat} {i : Nat} {p : Plan} {a : Act} {w : World}
    (h : wpList P ops (Strict fun _ a' w' => ∃ o v, ops[i]? = some o ∧ YieldsIf P ops S o v a' ∧ wpPlan P ops Q S p (a'.put o.dst v) w') ((ts ++ []).filterMap fun i => ops[i]?) a w) : wpPlan P ops Q S (.yield ts i p) a w := h
theorem plan_fork {i j : Nat} {p q : Plan} {a : Act} {w : World} (h1 : wpList P ops (Strict fun _ a' w' => S w' ∧ wpPlan P ops Q S p a' w') ([i].filterMap fun i => ops[i]?) a w)
    (h2 : wpList P ops (Strict fun _ a' w' => S w' ∧ wpPlan P ops Q S q a' w') ([j].filterMap fun i => ops[i]?) a w) : wpPlan P ops Q S (.fork i j p q) a w := ⟨h1, h2⟩
theorem plan_fin {takes : List Nat} {a : Act} {w : World} (h : wpList P ops (Strict Q) (takes.filterMap fun i => ops[i]?) a w) : wpPlan P ops Q S (.fin takes) a w := h
end
end Go.Proofs.Ytdniigefmlmcdab
