/- A cache: Put into an empty one, on a quiet disk; the statements' own test that a cache is awake. -/
import Derived.Test.YtdniigefmlmcdabHSegsP
import Derived.Deep.DeepCutAuto
import Derived.Deep.Cut
import Derived.Handy

namespace Go.Proofs.Ytdniigefmlmcdab
open Go Go.RowKit
set_option linter.unusedSimpArgs false
set_option linter.unusedVariables false

theorem en_range {w : World} {b : Nat} {k : Rf} {f : Nat → Nat} {o n : Option Addr} (h : Blk w b 95 (enC k f o n)) : w.rangeAt b 33 ((List.range 256).map (iv .u8 f)) := by
  have := Blk.range (n := 291) (f := enF k f o n) h 33 256 (by decide)
  rw [show ((List.range 256).map fun j => enF k f o n (33 + j)) = (List.range 256).map (iv .u8 f) from List.map_congr_left fun j hj => ?_] at this
  · exact this
  · have hj := List.mem_range.1 hj
    unfold enF iv
    rw [if_neg (by omega), if_pos (by omega), show 33 + j - 33 = j by omega]
theorem Turns.laid {S : Nat → Prop} {w w' : World} (h : Turns S w w') {b : Nat} (hb : w.heap.size ≤ b) (cs : Array Value) : Turns S w (w'.setRow b cs) := by
  have k : Below w.heap.size w' (w'.setRow b cs) := below_setRow (Below.refl _ _) hb cs
  exact ⟨k.os.trans h.os, k.tape.trans h.tape, k.output.trans h.output, Nat.le_trans h.size k.size, fun x hx hf => (k.block x hx).trans (h.block x hx hf)⟩
theorem Turns.alloc {S : Nat → Prop} {w w' : World} (h : Turns S w w') (o : Obj) : Turns S w (w'.alloc o) := by
  have k : Below w'.heap.size w' (w'.alloc o) := below_new1 _ _
  exact ⟨k.os.trans h.os, k.tape.trans h.tape, k.output.trans h.output, Nat.le_trans h.size k.size, fun x hx hf => (k.block x (Nat.lt_of_lt_of_le hx h.size)).trans (h.block x hx hf)⟩
section
variable {c m b : Nat} {dp lp o n : Option Addr} {room h r bd cn : Int}
set_option maxRecDepth 100000 in
set_option maxHeartbeats 4000000 in
theorem use_only (k : Rf) (f : Nat → Nat) (hcb : b ≠ c) (w : World) (hg : Blk w c 75 (caC dp lp room m (some ⟨b, 0, none⟩) (some ⟨b, 0, none⟩) h r bd cn)) (he : Blk w b 95 (enC k f none none)) (hm : MapIs rfV ptV w m [(k, b)]) : Calls Try.prog 36 #[.pointer (some ⟨c, 3, none⟩), .agg (rfC k)] w fun e w' => e = .returned (.tuple #[.agg (va 256 (iv .u8 f)), .bool true]) ∧ Blk w' c 75 (caC dp lp room m (some ⟨b, 0, none⟩) (some ⟨b, 0, none⟩) h r bd cn) ∧ Blk w' b 95 (enC k f none none) ∧ Turns (two c b) w w' := by
  have hz := zero_bk
  have hb1 : Below w.heap.size w ((w.alloc (.cells (rfC k) 35)).alloc (.cells (va 256 (iv .u8 fun _ => 0)) 23)) := below_new2 _ _ _
  have r1 : Blk ((w.alloc (.cells (rfC k) 35)).alloc (.cells (va 256 (iv .u8 fun _ => 0)) 23)) w.heap.size 35 (rfC k) := (Blk.new _ _ _).alloc _
  have k1 : Blk ((w.alloc (.cells (rfC k) 35)).alloc (.cells (va 256 (iv .u8 fun _ => 0)) 23)) (w.heap.size + 1) 23 (va 256 (iv .u8 fun _ => 0)) := Blk.new1 _ _ _ _
  have HG1 : Hid (Blk ((w.alloc (.cells (rfC k) 35)).alloc (.cells (va 256 (iv .u8 fun _ => 0)) 23)).drew c 75 (caC dp lp room m (some ⟨b, 0, none⟩) (some ⟨b, 0, none⟩) h r bd cn)) := hg.below hb1.drew hg.lt
  have HE1 : Hid (Blk ((w.alloc (.cells (rfC k) 35)).alloc (.cells (va 256 (iv .u8 fun _ => 0)) 23)).drew b 95 (enC k f none none)) := he.below hb1.drew he.lt
  have c3 : ((w.alloc (.cells (rfC k) 35)).alloc (.cells (va 256 (iv .u8 fun _ => 0)) 23)).cell? ⟨c, 3, none⟩ = some (.map (some m)) := by
    rw [(hg.below hb1 hg.lt).cell]
    rfl
  have hlk : (Instr.lookup 67 (.map (some m)) (.agg (rfC k)) true).run Try.prog ((w.alloc (.cells (rfC k) 35)).alloc (.cells (va 256 (iv .u8 fun _ => 0)) 23)).drew = .ok (.tuple #[.pointer (some ⟨b, 0, none⟩), .bool true]) ((w.alloc (.cells (rfC k) 35)).alloc (.cells (va 256 (iv .u8 fun _ => 0)) 23)).drew := by
    have := run_lookup_is Try.underlying67 ref_key zero_en (hm.below hb1.drew hm.lt) k true
    rw [show findIn k [(k, b)] = some b by simp [findIn]] at this
    exact this
  have hUn : Hid (∀ w : World, Blk w c 75 (caC dp lp room m (some ⟨b, 0, none⟩) (some ⟨b, 0, none⟩) h r bd cn) → Blk w b 95 (enC k f none none) → Calls Try.prog 39 #[.pointer (some ⟨c, 3, none⟩), .pointer (some ⟨b, 0, none⟩)] w fun e w' => e = .returned (.tuple #[]) ∧ Blk w' c 75 (caC dp lp room m none none h r bd cn) ∧ Blk w' b 95 (enC k f none none) ∧ Turns (two c b) w w') := fun w h1 h2 => unlink_only hcb w h1 h2
  have hLk : Hid (∀ w : World, Blk w c 75 (caC dp lp room m none none h r bd cn) → Blk w b 95 (enC k f none none) → Calls Try.prog 44 #[.pointer (some ⟨c, 3, none⟩), .pointer (some ⟨b, 0, none⟩)] w fun e w' => e = .returned (.tuple #[]) ∧ Blk w' c 75 (caC dp lp room m (some ⟨b, 0, none⟩) (some ⟨b, 0, none⟩) h r bd cn) ∧ Blk w' b 95 (enC k f none none) ∧ Turns (two c b) w w') := fun w h1 h2 => link_first hcb w h1 h2
  have HLT : Hid (c < w.heap.size ∧ b < w.heap.size) := ⟨hg.lt, he.lt⟩
  have HB1 : Hid (Below w.heap.size w ((w.alloc (.cells (rfC k) 35)).alloc (.cells (va 256 (iv .u8 fun _ => 0)) 23)).drew) := hb1.drew
  clear hg he hm hb1
  go_enter Try.func36, Try.ntmps36
  go_wp2_with fail
  have k1d : Blk ((w.alloc (.cells (rfC k) 35)).alloc (.cells (va 256 (iv .u8 fun _ => 0)) 23)).drew (w.heap.size + 1) 23 (va 256 (iv .u8 fun _ => 0)) := k1
  clear k1
  generalize ((w.alloc (.cells (rfC k) 35)).alloc (.cells (va 256 (iv .u8 fun _ => 0)) 23)) = w1 at *
  refine wp_region_partsS (fun W => W.cell? ⟨c, 3, none⟩ = some (.map (some m))) [([0], 1, true), ([], 2, true), ([], 3, true), ([], 4, false), ([], 5, false)] [6, 7, 8, 9, 10] [] (by kernel_rfl) (by kernel_rfl) c3 (partsI_yield ?_)
  simp only [List.cons_append, List.nil_append, List.append_nil, List.filterMap_cons, List.filterMap_nil, List.getElem?_toArray, List.getElem?_cons_zero, List.getElem?_cons_succ]
  go_wp2_with fail
  refine ⟨rfl, _, .pointer (some ⟨c, 3, none⟩), rfl, Or.inl ⟨by rfl, fun W hW => by go_simp⟩, partsI_yield ?_⟩
  simp only [Act.put, List.setIfInBounds_toArray, List.set_cons_zero, List.set_cons_succ]
  simp only [List.cons_append, List.nil_append, List.append_nil, List.filterMap_cons, List.filterMap_nil, List.getElem?_toArray, List.getElem?_cons_zero, List.getElem?_cons_succ]
  go_wp2_with fail
  refine ⟨rfl, _, .pointer (some ⟨c, 3, none⟩), rfl, Or.inl ⟨by rfl, fun W hW => by go_simp⟩, partsI_yield ?_⟩
  simp only [Act.put, List.setIfInBounds_toArray, List.set_cons_zero, List.set_cons_succ]
  simp only [List.cons_append, List.nil_append, List.append_nil, List.filterMap_cons, List.filterMap_nil, List.getElem?_toArray, List.getElem?_cons_zero, List.getElem?_cons_succ]
  go_wp2_with fail
  refine ⟨rfl, _, .map (some m), rfl, Or.inl ⟨by rfl, fun W hW => by go_simp⟩, partsI_force ?_⟩
  simp only [Act.put, List.setIfInBounds_toArray, List.set_cons_zero, List.set_cons_succ]
  simp only [List.cons_append, List.nil_append, List.append_nil, List.filterMap_cons, List.filterMap_nil, List.getElem?_toArray, List.getElem?_cons_zero, List.getElem?_cons_succ]
  refine wpList_load_rowg (by rfl) 35 _ (by rfl) w.heap.size (by rfl) 35 (rfC k) (0, 0) _ r1.drew Try.underlying35 (by rfl) (slSizeRef.trans (by rw [rfC_size])) ?_
  simp only [Act.put, List.setIfInBounds_toArray, List.set_cons_zero, List.set_cons_succ]
  go_wp2_with fail
  refine ⟨rfl, c3, partsI_force ?_⟩
  simp only [List.cons_append, List.nil_append, List.append_nil, List.filterMap_cons, List.filterMap_nil, List.getElem?_toArray, List.getElem?_cons_zero, List.getElem?_cons_succ]
  go_wp2_with fail
  refine ⟨rfl, c3, partsI_last ?_⟩
  simp only [List.cons_append, List.nil_append, List.append_nil, List.filterMap_cons, List.filterMap_nil, List.getElem?_toArray, List.getElem?_cons_zero, List.getElem?_cons_succ]
  go_wp2_with fail
  refine ⟨rfl, ?_⟩
  clear c3 hlk r1
  generalize w1.drew = w2 at *
  go_wp2_with fail
  refine (hUn.out _ HG1.out HE1.out).mono ?_
  rintro e w3 ⟨rfl, hg3, he3, ht3⟩
  have HG3 : Hid (Blk w3 c 75 (caC dp lp room m none none h r bd cn)) := hg3
  have HE3 : Hid (Blk w3 b 95 (enC k f none none)) := he3
  have HT3 : Hid (Turns (two c b) w w3) := (Turns.of_below (S := two c b) (w := w) ⟨HB1.out.os, HB1.out.tape, HB1.out.output, HB1.out.size, HB1.out.block⟩).trans ht3 fun x hx => .inl hx
  have k3 : Blk w3 (w.heap.size + 1) 23 (va 256 (iv .u8 fun _ => 0)) := ht3.blk k1d (fun e => by have := HLT.out; rcases e with e | e <;> omega)
  clear hg3 he3 ht3 k1d HG1 HE1 HB1 hUn
  go_wp2_with fail
  refine (hLk.out _ HG3.out HE3.out).mono ?_
  rintro e w4 ⟨rfl, hg4, he4, ht4⟩
  have HG4 : Hid (Blk w4 c 75 (caC dp lp room m (some ⟨b, 0, none⟩) (some ⟨b, 0, none⟩) h r bd cn)) := hg4
  have HE4 : Hid (Blk w4 b 95 (enC k f none none)) := he4
  have HT4 : Hid (Turns (two c b) w w4) := HT3.out.trans ht4 fun x hx => .inl hx
  have k4 : Blk w4 (w.heap.size + 1) 23 (va 256 (iv .u8 fun _ => 0)) := ht4.blk k3 (fun e => by have := HLT.out; rcases e with e | e <;> omega)
  have HR4 : Hid (w4.rangeAt b 33 ((List.range 256).map (iv .u8 f))) := en_range he4
  clear hg4 he4 ht4 k3 HG3 HE3 HT3 hLk
  go_wp2_with (first
    | (refine wpList_load_blk (by rfl) 23 _ (by rfl) (b) (33) 256 (iv .u8 f) (by rfl) _ (by exact HR4.out) Try.underlying23 rfl sizeBk ?_; simp only [Act.put, List.setIfInBounds_toArray, List.set_cons_zero, List.set_cons_succ])
    | (refine wpList_store_row (by rfl) 23 _ _ (by rfl) (w.heap.size + 1) (va 256 (iv .u8 f)) (by rfl) (by rfl) 23 _ k4 (sizeBk.trans (by rw [va_size])) (by simp only [va_size]) (iv_one _ _ _) ?_; simp only [Act.put, List.setIfInBounds_toArray, List.set_cons_zero, List.set_cons_succ])
    | fail)
  try simp only [Exit.inBlock, Exit.then]
  refine bodyPost_ret (results_row2 Try.results36 _ _ (w.heap.size + 1) 23 (va 256 (iv .u8 f)) (0, 0) _ rfl ((k4.set _)) Try.underlying23 rfl (sizeBk.trans (by rw [va_size]))) rfl ?_
  have hlt := HLT.out
  refine ⟨rfl, HG4.out.other _ (by omega), HE4.out.other _ (by omega), ?_⟩
  exact HT4.out.laid (by omega) _
set_option maxRecDepth 100000 in
set_option maxHeartbeats 4000000 in
theorem caGet_hit (k : Rf) (hk0 : k ≠ rf0) (f : Nat → Nat) (hcb : b ≠ c) (hh : 0 ≤ h ∧ h < 4611686018427387904) (w : World) (hg : Blk w c 75 (caC dp lp room m (some ⟨b, 0, none⟩) (some ⟨b, 0, none⟩) h r bd cn)) (he : Blk w b 95 (enC k f none none)) (hm : MapIs rfV ptV w m [(k, b)]) : Calls Try.prog 23 #[.pointer (some ⟨c, 0, none⟩), .agg (rfC k)] w fun e w' => e = .returned (.tuple #[.agg (va 256 (iv .u8 f)), .int .i64 0]) ∧ Blk w' c 75 (caC dp lp room m (some ⟨b, 0, none⟩) (some ⟨b, 0, none⟩) (h + 1) r bd cn) ∧ Blk w' b 95 (enC k f none none) ∧ Turns (two c b) w w' := by
  have hz := zero_bk
  have hN : Hid (∀ w, Calls Try.prog 35 #[.agg (rfC k)] w fun e w' => e = .returned (.bool false) ∧ Below w.heap.size w w') := fun w => by
    have := none_any k w
    rw [decide_eq_false hk0] at this
    exact this
  have hU : Hid (∀ w : World, Blk w c 75 (caC dp lp room m (some ⟨b, 0, none⟩) (some ⟨b, 0, none⟩) h r bd cn) → Blk w b 95 (enC k f none none) → MapIs rfV ptV w m [(k, b)] → Calls Try.prog 36 #[.pointer (some ⟨c, 3, none⟩), .agg (rfC k)] w fun e w' => e = .returned (.tuple #[.agg (va 256 (iv .u8 f)), .bool true]) ∧ Blk w' c 75 (caC dp lp room m (some ⟨b, 0, none⟩) (some ⟨b, 0, none⟩) h r bd cn) ∧ Blk w' b 95 (enC k f none none) ∧ Turns (two c b) w w') := fun w h1 h2 h3 => use_only k f hcb w h1 h2 h3
  have hb1 : Below w.heap.size w ((w.alloc (.cells (rfC k) 35)).alloc (.cells (va 256 (iv .u8 fun _ => 0)) 23)) := below_new2 _ _ _
  have r1 : Blk ((w.alloc (.cells (rfC k) 35)).alloc (.cells (va 256 (iv .u8 fun _ => 0)) 23)) w.heap.size 35 (rfC k) := (Blk.new _ _ _).alloc _
  have k1 : Blk ((w.alloc (.cells (rfC k) 35)).alloc (.cells (va 256 (iv .u8 fun _ => 0)) 23)) (w.heap.size + 1) 23 (va 256 (iv .u8 fun _ => 0)) := Blk.new1 _ _ _ _
  have HG1 : Hid (Blk ((w.alloc (.cells (rfC k) 35)).alloc (.cells (va 256 (iv .u8 fun _ => 0)) 23)) c 75 (caC dp lp room m (some ⟨b, 0, none⟩) (some ⟨b, 0, none⟩) h r bd cn)) := hg.below hb1 hg.lt
  have HE1 : Hid (Blk ((w.alloc (.cells (rfC k) 35)).alloc (.cells (va 256 (iv .u8 fun _ => 0)) 23)) b 95 (enC k f none none)) := he.below hb1 he.lt
  have HM1 : Hid (MapIs rfV ptV ((w.alloc (.cells (rfC k) 35)).alloc (.cells (va 256 (iv .u8 fun _ => 0)) 23)) m [(k, b)]) := hm.below hb1 hm.lt
  have HLT : Hid (c < w.heap.size ∧ b < w.heap.size) := ⟨hg.lt, he.lt⟩
  have HS1 : Hid (w.heap.size + 2 ≤ ((w.alloc (.cells (rfC k) 35)).alloc (.cells (va 256 (iv .u8 fun _ => 0)) 23)).heap.size) := by
    show _ ≤ _
    simp
  have HCB : Hid (b ≠ c) := hcb
  clear hg he hm hcb hk0
  go_enter Try.func23, Try.ntmps23
  go_wp2_with (first
    | (refine wpList_load_rowg (by rfl) 35 _ (by rfl) (w.heap.size) (by rfl) 35 (rfC k) (0, 0) _ (by exact r1) Try.underlying35 (by rfl) (slSizeRef.trans (by rw [rfC_size])) ?_; simp only [Act.put, List.setIfInBounds_toArray, List.set_cons_zero, List.set_cons_succ])
    | fail)
  generalize ((w.alloc (.cells (rfC k) 35)).alloc (.cells (va 256 (iv .u8 fun _ => 0)) 23)) = w1 at *
  refine (hN.out _).mono ?_
  rintro e w2 ⟨rfl, hb⟩
  have r2 : Blk w2.drew w.heap.size 35 (rfC k) := r1.below hb.drew r1.lt
  have k2 : Blk w2.drew (w.heap.size + 1) 23 (va 256 (iv .u8 fun _ => 0)) := k1.below hb.drew k1.lt
  have HG2 : Hid (Blk w2.drew c 75 (caC dp lp room m (some ⟨b, 0, none⟩) (some ⟨b, 0, none⟩) h r bd cn)) := HG1.out.below hb.drew HG1.out.lt
  have HE2 : Hid (Blk w2.drew b 95 (enC k f none none)) := HE1.out.below hb.drew HE1.out.lt
  have HM2 : Hid (MapIs rfV ptV w2.drew m [(k, b)]) := HM1.out.below hb.drew HM1.out.lt
  have HSZ : Hid (w.heap.size + 2 ≤ w2.drew.heap.size) := Nat.le_trans HS1.out hb.size
  have HT2 : Hid (Turns (two c b) w w2.drew) := .of_below (hb1.trans (hb.drew.mono hb1.size))
  clear hb r1 k1 HG1 HE1 HM1 HS1 hb1 hN
  go_wp2_with fail
  go_cut [6, 7] (fun v6 v7 wx => v7 = .bool true ∧ ∃ x, v6 = .pointer (some ⟨x, 0, none⟩) ∧ w.heap.size + 2 ≤ x ∧ Blk wx x 23 (va 256 (iv .u8 f)) ∧ Blk wx (w.heap.size + 1) 23 (va 256 (iv .u8 fun _ => 0)) ∧ Blk wx c 75 (caC dp lp room m (some ⟨b, 0, none⟩) (some ⟨b, 0, none⟩) h r bd cn) ∧ Blk wx b 95 (enC k f none none) ∧ Turns (two c b) w wx)
  case first =>
    refine wp_region_plan (fun W => Blk W w.heap.size 35 (rfC k)) (.yield [0] 1 (.yield [] 2 (.yield [] 3 (.fork 4 8 (.force [5, 6, 7] 8 (.force [] 9 (.fin [10]))) (.force [] 4 (.yield [5] 6 (.yield [] 7 (.force [] 9 (.fin [10]))))))))) (by kernel_rfl) (by kernel_rfl) r2 (plan_yield ?_)
    generalize w2.drew = wd at *
    simp only [List.cons_append, List.nil_append, List.append_nil, List.filterMap_cons, List.filterMap_nil, List.getElem?_toArray, List.getElem?_cons_zero, List.getElem?_cons_succ]
    go_wp2_with fail
    refine ⟨rfl, _, .pointer (some ⟨c, 0, none⟩), rfl, Or.inl ⟨by rfl, fun W hW => by go_simp⟩, plan_yield ?_⟩
    simp only [Act.put, List.setIfInBounds_toArray, List.set_cons_zero, List.set_cons_succ]
    simp only [List.cons_append, List.nil_append, List.append_nil, List.filterMap_cons, List.filterMap_nil, List.getElem?_toArray, List.getElem?_cons_zero, List.getElem?_cons_succ]
    go_wp2_with fail
    refine ⟨rfl, _, .pointer (some ⟨c, 3, none⟩), rfl, Or.inl ⟨by rfl, fun W hW => by go_simp⟩, plan_yield ?_⟩
    simp only [Act.put, List.setIfInBounds_toArray, List.set_cons_zero, List.set_cons_succ]
    simp only [List.cons_append, List.nil_append, List.append_nil, List.filterMap_cons, List.filterMap_nil, List.getElem?_toArray, List.getElem?_cons_zero, List.getElem?_cons_succ]
    go_wp2_with fail
    refine ⟨rfl, _, .agg (rfC k), rfl, kyields_load (by rfl) 35 _ (by rfl) w.heap.size 33 (rfF k.1 k.2) (by rfl) _ 35 (fun W hW => hW) Try.underlying35 rfl slSizeRef, plan_fork ?_ ?_⟩
    simp only [Act.put, List.setIfInBounds_toArray, List.set_cons_zero, List.set_cons_succ]
    · simp only [List.cons_append, List.nil_append, List.append_nil, List.filterMap_cons, List.filterMap_nil, List.getElem?_toArray, List.getElem?_cons_zero, List.getElem?_cons_succ]
      go_wp2_with fail
      refine (hU.out _ HG2.out HE2.out HM2.out).mono ?_
      rintro e w3 ⟨rfl, hg3, he3, ht3⟩
      have HG3 : Hid (Blk w3 c 75 (caC dp lp room m (some ⟨b, 0, none⟩) (some ⟨b, 0, none⟩) h r bd cn)) := hg3
      have HE3 : Hid (Blk w3 b 95 (enC k f none none)) := he3
      have HT3 : Hid (Turns (two c b) w w3) := HT2.out.trans ht3 fun x hx => .inl hx
      have r3 : Blk w3 w.heap.size 35 (rfC k) := ht3.blk r2 (fun e => by have := HLT.out; rcases e with e | e <;> omega)
      have k3 : Blk w3 (w.heap.size + 1) 23 (va 256 (iv .u8 fun _ => 0)) := ht3.blk k2 (fun e => by have := HLT.out; rcases e with e | e <;> omega)
      have hs3 : wd.heap.size ≤ w3.heap.size := ht3.size
      clear hg3 he3 ht3
      go_wp2_with fail
      refine ⟨rfl, r3, plan_force ?_⟩
      simp only [List.cons_append, List.nil_append, List.append_nil, List.filterMap_cons, List.filterMap_nil, List.getElem?_toArray, List.getElem?_cons_zero, List.getElem?_cons_succ]
      have q0 := Blk.new w3 23 (va 256 (iv .u8 fun _ => 0))
      go_wp2_with fail
      refine ⟨rfl, (r3.alloc _), plan_force ?_⟩
      simp only [List.cons_append, List.nil_append, List.append_nil, List.filterMap_cons, List.filterMap_nil, List.getElem?_toArray, List.getElem?_cons_zero, List.getElem?_cons_succ]
      refine wpList_store_row (by rfl) 23 _ _ (by rfl) (w3.heap.size) (va 256 (iv .u8 f)) (by rfl) (by rfl) 23 _ q0 (sizeBk.trans (by rw [va_size])) (by rw [va_size, va_size]) (iv_one _ _ _) ?_
      simp only [Act.put, List.setIfInBounds_toArray, List.set_cons_zero, List.set_cons_succ]
      go_wp2_with fail
      refine ⟨rfl, ((r3.alloc _).other _ (Nat.ne_of_lt r3.lt)), plan_fin ?_⟩
      simp only [List.cons_append, List.nil_append, List.append_nil, List.filterMap_cons, List.filterMap_nil, List.getElem?_toArray, List.getElem?_cons_zero, List.getElem?_cons_succ]
      go_wp2_with fail
      refine ⟨rfl, ?_⟩
      go_wp2_with fail
      go_meet
      have hsz := HSZ.out
      exact ⟨rfl, w3.heap.size, rfl, by omega, q0.set _, (k3.alloc _).other _ (Nat.ne_of_lt k3.lt), (HG3.out.alloc _).other _ (Nat.ne_of_lt HG3.out.lt), (HE3.out.alloc _).other _ (Nat.ne_of_lt HE3.out.lt), (HT3.out.alloc _).laid (by omega) _⟩
    · simp only [List.cons_append, List.nil_append, List.append_nil, List.filterMap_cons, List.filterMap_nil, List.getElem?_toArray, List.getElem?_cons_zero, List.getElem?_cons_succ]
      have q0 := Blk.new wd 23 (va 256 (iv .u8 fun _ => 0))
      go_wp2_with fail
      refine ⟨rfl, (r2.alloc _), plan_force ?_⟩
      simp only [List.cons_append, List.nil_append, List.append_nil, List.filterMap_cons, List.filterMap_nil, List.getElem?_toArray, List.getElem?_cons_zero, List.getElem?_cons_succ]
      go_wp2_with fail
      refine (hU.out _ (HG2.out.alloc _) (HE2.out.alloc _) (HM2.out.below (below_new1 _ _) HM2.out.lt)).mono ?_
      rintro e w3 ⟨rfl, hg3, he3, ht3⟩
      have HG3 : Hid (Blk w3 c 75 (caC dp lp room m (some ⟨b, 0, none⟩) (some ⟨b, 0, none⟩) h r bd cn)) := hg3
      have HE3 : Hid (Blk w3 b 95 (enC k f none none)) := he3
      have HT3 : Hid (Turns (two c b) w w3) := (HT2.out.alloc _).trans ht3 fun x hx => .inl hx
      have r3 : Blk w3 w.heap.size 35 (rfC k) := ht3.blk (r2.alloc _) (fun e => by have := HLT.out; rcases e with e | e <;> omega)
      have k3 : Blk w3 (w.heap.size + 1) 23 (va 256 (iv .u8 fun _ => 0)) := ht3.blk (k2.alloc _) (fun e => by have := HLT.out; rcases e with e | e <;> omega)
      have q3 : Blk w3 wd.heap.size 23 (va 256 (iv .u8 fun _ => 0)) := ht3.blk q0 (fun e => by have := HLT.out; have := HSZ.out; rcases e with e | e <;> omega)
      clear hg3 he3 ht3
      go_wp2_with fail
      refine ⟨rfl, r3, plan_yield ?_⟩
      simp only [List.cons_append, List.nil_append, List.append_nil, List.filterMap_cons, List.filterMap_nil, List.getElem?_toArray, List.getElem?_cons_zero, List.getElem?_cons_succ]
      go_wp2_with fail
      refine ⟨rfl, _, .agg (va 256 (iv .u8 f)), rfl, Or.inl ⟨by rfl, fun W hW => by go_simp⟩, plan_yield ?_⟩
      simp only [Act.put, List.setIfInBounds_toArray, List.set_cons_zero, List.set_cons_succ]
      simp only [List.cons_append, List.nil_append, List.append_nil, List.filterMap_cons, List.filterMap_nil, List.getElem?_toArray, List.getElem?_cons_zero, List.getElem?_cons_succ]
      go_wp2_with fail
      refine ⟨rfl, _, .bool true, rfl, Or.inl ⟨by rfl, fun W hW => by go_simp⟩, plan_force ?_⟩
      simp only [Act.put, List.setIfInBounds_toArray, List.set_cons_zero, List.set_cons_succ]
      simp only [List.cons_append, List.nil_append, List.append_nil, List.filterMap_cons, List.filterMap_nil, List.getElem?_toArray, List.getElem?_cons_zero, List.getElem?_cons_succ]
      refine wpList_store_row (by rfl) 23 _ _ (by rfl) (wd.heap.size) (va 256 (iv .u8 f)) (by rfl) (by rfl) 23 _ q3 (sizeBk.trans (by rw [va_size])) (by rw [va_size, va_size]) (iv_one _ _ _) ?_
      simp only [Act.put, List.setIfInBounds_toArray, List.set_cons_zero, List.set_cons_succ]
      go_wp2_with fail
      refine ⟨rfl, (r3.other _ (by have := HSZ.out; omega)), plan_fin ?_⟩
      simp only [List.cons_append, List.nil_append, List.append_nil, List.filterMap_cons, List.filterMap_nil, List.getElem?_toArray, List.getElem?_cons_zero, List.getElem?_cons_succ]
      go_wp2_with fail
      refine ⟨rfl, ?_⟩
      go_wp2_with fail
      go_meet
      have hsz := HSZ.out
      have hlt := HLT.out
      exact ⟨rfl, wd.heap.size, rfl, by omega, q3.set _, k3.other _ (by omega), HG3.out.other _ (by omega), HE3.out.other _ (by omega), HT3.out.laid (by omega) _⟩
  case rest =>
    obtain ⟨rfl, x, rfl, hx, q3, k3, hg3, he3, ht3⟩ := hcut
    clear r2 k2 HG2 HE2 HM2 HSZ HT2 hU
    rename World => wx
    have hlt := HLT.out
    have hcb := HCB.out
    have c6 : wx.cell? ⟨c, 6, none⟩ = some (.int .i64 h) := by
      rw [hg3.cell]
      rfl
    have f6 : wx.frozen? ⟨c, 6, none⟩ = false := hg3.frozen 6
    have HG4 : Hid (Blk (wx.setCell ⟨c, 6, none⟩ (.int .i64 (h + 1))) c 75 (caC dp lp room m (some ⟨b, 0, none⟩) (some ⟨b, 0, none⟩) (h + 1) r bd cn)) := hg3.put 6 _
    have HE4 : Hid (Blk (wx.setCell ⟨c, 6, none⟩ (.int .i64 (h + 1))) b 95 (enC k f none none)) := blk_setOther he3 hcb
    have q4 : Blk (wx.setCell ⟨c, 6, none⟩ (.int .i64 (h + 1))) x 23 (va 256 (iv .u8 f)) := blk_setOther q3 (by omega)
    have k4 : Blk (wx.setCell ⟨c, 6, none⟩ (.int .i64 (h + 1))) (w.heap.size + 1) 23 (va 256 (iv .u8 fun _ => 0)) := blk_setOther k3 (by omega)
    have HT4 : Hid (Turns (two c b) w (wx.setCell ⟨c, 6, none⟩ (.int .i64 (h + 1)))) := turns_set ht3 (.inl rfl)
    obtain ⟨hh0, hh1⟩ := hh
    clear hg3 he3 q3 k3 ht3 hlt hcb
    go_wp2_with (first
      | (refine wpList_load_row (by rfl) 23 _ (by rfl) (x) (by rfl) 23 (va 256 (iv .u8 f)) (0, 0) _ q4 Try.underlying23 (by rfl) (sizeBk.trans (by rw [va_size])) ?_; simp only [Act.put, List.setIfInBounds_toArray, List.set_cons_zero, List.set_cons_succ])
      | (refine wpList_store_row (by rfl) 23 _ _ (by rfl) (w.heap.size + 1) (va 256 (iv .u8 f)) (by rfl) (by rfl) 23 _ k4 (sizeBk.trans (by rw [va_size])) (by simp only [va_size]) (iv_one _ _ _) ?_; simp only [Act.put, List.setIfInBounds_toArray, List.set_cons_zero, List.set_cons_succ])
      | fail)
    try simp only [Exit.inBlock, Exit.then]
    refine bodyPost_ret (results_row2 Try.results23 _ _ (w.heap.size + 1) 23 (va 256 (iv .u8 f)) (0, 0) _ rfl ((k4.set _)) Try.underlying23 rfl (sizeBk.trans (by rw [va_size]))) rfl ?_
    have hlt := HLT.out
    exact ⟨rfl, HG4.out.other _ (by omega), HE4.out.other _ (by omega), HT4.out.laid (by omega) _⟩
set_option maxRecDepth 100000 in
set_option maxHeartbeats 4000000 in
theorem caHas_at (k : Rf) (l : List (Rf × Nat)) (w : World) (hg : Blk w c 75 (caC dp lp room m o n h r bd cn)) (hm : MapIs rfV ptV w m l) : Calls Try.prog 13 #[.pointer (some ⟨c, 0, none⟩), .agg (rfC k)] w fun e w' => e = .returned (.bool (findIn k l).isSome) ∧ Below w.heap.size w w' := by
  have hb : Below w.heap.size w (w.alloc (.cells (rfC k) 35)) := below_new1 _ _
  have r1 : Blk (w.alloc (.cells (rfC k) 35)) w.heap.size 35 (rfC k) := Blk.new _ _ _
  have c3 : (w.alloc (.cells (rfC k) 35)).cell? ⟨c, 3, none⟩ = some (.map (some m)) := by
    rw [(hg.below hb hg.lt).cell]
    rfl
  have hlk : (Instr.lookup 67 (.map (some m)) (.agg (rfC k)) true).run Try.prog (w.alloc (.cells (rfC k) 35)).drew = .ok (.tuple #[((findIn k l).map ptV).getD (.pointer none), .bool (findIn k l).isSome]) (w.alloc (.cells (rfC k) 35)).drew := run_lookup_is Try.underlying67 ref_key zero_en (hm.below hb.drew hm.lt) k true
  generalize ((findIn k l).map ptV).getD (.pointer none) = x at *
  generalize (findIn k l).isSome = y at *
  clear hg hm
  go_enter Try.func13, Try.ntmps13
  go_wp2_with fail
  generalize (w.alloc (.cells (rfC k) 35)) = w1 at *
  refine wp_region_partsS (fun W => W.cell? ⟨c, 3, none⟩ = some (.map (some m))) [([0], 1, true), ([], 2, true), ([], 3, true), ([], 4, true), ([], 5, false), ([], 6, false)] [7, 8, 9, 10, 11] [] (by kernel_rfl) (by kernel_rfl) c3 (partsI_yield ?_)
  simp only [List.cons_append, List.nil_append, List.append_nil, List.filterMap_cons, List.filterMap_nil, List.getElem?_toArray, List.getElem?_cons_zero, List.getElem?_cons_succ]
  go_wp2_with fail
  refine ⟨rfl, _, .pointer (some ⟨c, 0, none⟩), rfl, Or.inl ⟨by rfl, fun W hW => by go_simp⟩, partsI_yield ?_⟩
  simp only [Act.put, List.setIfInBounds_toArray, List.set_cons_zero, List.set_cons_succ]
  simp only [List.cons_append, List.nil_append, List.append_nil, List.filterMap_cons, List.filterMap_nil, List.getElem?_toArray, List.getElem?_cons_zero, List.getElem?_cons_succ]
  go_wp2_with fail
  refine ⟨rfl, _, .pointer (some ⟨c, 3, none⟩), rfl, Or.inl ⟨by rfl, fun W hW => by go_simp⟩, partsI_yield ?_⟩
  simp only [Act.put, List.setIfInBounds_toArray, List.set_cons_zero, List.set_cons_succ]
  simp only [List.cons_append, List.nil_append, List.append_nil, List.filterMap_cons, List.filterMap_nil, List.getElem?_toArray, List.getElem?_cons_zero, List.getElem?_cons_succ]
  go_wp2_with fail
  refine ⟨rfl, _, .pointer (some ⟨c, 3, none⟩), rfl, Or.inl ⟨by rfl, fun W hW => by go_simp⟩, partsI_yield ?_⟩
  simp only [Act.put, List.setIfInBounds_toArray, List.set_cons_zero, List.set_cons_succ]
  simp only [List.cons_append, List.nil_append, List.append_nil, List.filterMap_cons, List.filterMap_nil, List.getElem?_toArray, List.getElem?_cons_zero, List.getElem?_cons_succ]
  go_wp2_with fail
  refine ⟨rfl, _, .map (some m), rfl, Or.inl ⟨by rfl, fun W hW => by go_simp⟩, partsI_force ?_⟩
  simp only [Act.put, List.setIfInBounds_toArray, List.set_cons_zero, List.set_cons_succ]
  simp only [List.cons_append, List.nil_append, List.append_nil, List.filterMap_cons, List.filterMap_nil, List.getElem?_toArray, List.getElem?_cons_zero, List.getElem?_cons_succ]
  refine wpList_load_rowg (by rfl) 35 _ (by rfl) w.heap.size (by rfl) 35 (rfC k) (0, 0) _ r1.drew Try.underlying35 (by rfl) (slSizeRef.trans (by rw [rfC_size])) ?_
  simp only [Act.put, List.setIfInBounds_toArray, List.set_cons_zero, List.set_cons_succ]
  go_wp2_with fail
  refine ⟨rfl, c3, partsI_force ?_⟩
  simp only [List.cons_append, List.nil_append, List.append_nil, List.filterMap_cons, List.filterMap_nil, List.getElem?_toArray, List.getElem?_cons_zero, List.getElem?_cons_succ]
  go_wp2_with fail
  refine ⟨rfl, c3, partsI_last ?_⟩
  simp only [List.cons_append, List.nil_append, List.append_nil, List.filterMap_cons, List.filterMap_nil, List.getElem?_toArray, List.getElem?_cons_zero, List.getElem?_cons_succ]
  go_wp2_with fail
  refine ⟨rfl, ?_⟩
  go_wp2_with fail
  go_ret
  exact ⟨rfl, hb.drew⟩
end
end Go.Proofs.Ytdniigefmlmcdab

namespace Go.Proofs.Ytdniigefmlmcdab
open Go Go.RowKit
set_option linter.unusedSimpArgs false
set_option linter.unusedVariables false

/-- the blocks of a cache on a disk -/
def cafoot (g N : Nat) (q : QD) (c m : Nat) (x : Nat) : Prop := foot g N q x ∨ x = c ∨ x = m
section
variable {c m B g N k lg : Nat} {F : Nat → Nat} {q : QD} {room h r bd cn : Int}
set_option maxRecDepth 100000 in
set_option maxHeartbeats 4000000 in
theorem caPut_first (hr : 1 ≤ room) (hcn : 0 ≤ cn ∧ cn < 4611686018427387904) (a : Nat) (ha : a ≠ 0) (haN : a < N) (hN : N ≤ 8192) (f : Nat → Nat) (hk : k < 549755813888) (hlg : lg < 137438953472) (hq : Quiet q k) (w : World) (hB : B ≤ w.heap.size) (hd : DiskQ w B g N F k lg q) (hnc : ¬ foot g N q c) (hnm : ¬ foot g N q m) (hg : Blk w c 75 (caC (some ⟨g, 0, none⟩) none room m none none h r bd cn)) (hm : MapIs rfV ptV w m []) : Calls Try.prog 6 #[.pointer (some ⟨c, 0, none⟩), .int .u32 (a : Int), .agg (va 256 (iv .u8 f))] w fun e w' => e = .returned (.tuple #[.agg (rfC (a, dgB f)), .int .i64 0]) ∧ ∃ b q', w.heap.size ≤ b ∧ Blk w' c 75 (caC (some ⟨g, 0, none⟩) none room m (some ⟨b, 0, none⟩) (some ⟨b, 0, none⟩) h r bd (cn + 1)) ∧ Blk w' b 95 (enC (a, dgB f) f none none) ∧ MapIs rfV ptV w' m [((a, dgB f), b)] ∧ DiskQ w' B g N (putAt F (a * 256) 256 f) (k + 1) (lg + 1) q' ∧ Quiet q' (k + 1) ∧ Turns (cafoot g N q c m) w w' ∧ (∀ x, foot g N q' x → foot g N q x ∨ w.heap.size ≤ x) ∧ ∀ x, foot g N q' x → x ≠ c ∧ x ≠ m ∧ x ≠ b := by
  have hz := zero_ref
  have hML : Hid (∀ w : World, Blk w c 75 (caC (some ⟨g, 0, none⟩) none room m none none h r bd cn) → DiskQ w B g N F k lg q → Calls Try.prog 19 #[.pointer (some ⟨c, 0, none⟩), .int .u32 (a : Int)] w fun e w' => e = .returned (.bool true) ∧ w = w') := fun w h1 h2 => mayLie_ok a N ha haN hN w h1 (blocks_q w h2)
  have hOf : Hid (∀ w : World, Calls Try.prog 20 #[.pointer none, .int .u32 (a : Int), .agg (va 256 (iv .u8 f))] w fun e w' => e = .returned (.agg (rfC (a, dgB f))) ∧ Below w.heap.size w w') := nodeOf_nil a ha f
  have hWr : Hid (∀ w : World, B ≤ w.heap.size → DiskQ w B g N F k lg q → Calls Try.prog 21 #[.pointer (some ⟨g, 0, none⟩), .int .i64 (a : Int), .agg (va 256 (iv .u8 f))] w fun e w' => e = .returned (.int .i64 0) ∧ ∃ q', DiskQ w' B g N (putAt F (a * 256) 256 f) (k + 1) (lg + 1) q' ∧ Quiet q' (k + 1) ∧ Moved g N q q' w w') := fun w h1 h2 => write_q hq a f haN hN hk hlg w h1 h2
  have hKp : Hid (∀ w : World, Blk w c 75 (caC (some ⟨g, 0, none⟩) none room m none none h r bd (cn + 1)) → MapIs rfV ptV w m [] → Calls Try.prog 22 #[.pointer (some ⟨c, 0, none⟩), .agg (rfC (a, dgB f)), .agg (va 256 (iv .u8 f))] w fun e w' => e = .returned (.tuple #[]) ∧ ∃ b, w.heap.size ≤ b ∧ Blk w' c 75 (caC (some ⟨g, 0, none⟩) none room m (some ⟨b, 0, none⟩) (some ⟨b, 0, none⟩) h r bd (cn + 1)) ∧ Blk w' b 95 (enC (a, dgB f) f none none) ∧ MapIs rfV ptV w' m [((a, dgB f), b)] ∧ Turns (two c m) w w') := fun w h1 h2 => keep_first hr (a, dgB f) f w h1 h2
  have hb1 : Below w.heap.size w ((w.alloc (.cells (va 256 (iv .u8 f)) 23)).alloc (.cells (rfC rf0) 35)) := below_new2 _ _ _
  have b1 : Blk ((w.alloc (.cells (va 256 (iv .u8 f)) 23)).alloc (.cells (rfC rf0) 35)) w.heap.size 23 (va 256 (iv .u8 f)) := (Blk.new _ _ _).alloc _
  have p1 : Blk ((w.alloc (.cells (va 256 (iv .u8 f)) 23)).alloc (.cells (rfC rf0) 35)) (w.heap.size + 1) 35 (rfC rf0) := Blk.new1 _ _ _ _
  have g1 : Blk ((w.alloc (.cells (va 256 (iv .u8 f)) 23)).alloc (.cells (rfC rf0) 35)) c 75 (caC (some ⟨g, 0, none⟩) none room m none none h r bd cn) := hg.below hb1 hg.lt
  have HM1 : Hid (MapIs rfV ptV ((w.alloc (.cells (va 256 (iv .u8 f)) 23)).alloc (.cells (rfC rf0) 35)) m []) := hm.below hb1 hm.lt
  have HD1 : Hid (DiskQ ((w.alloc (.cells (va 256 (iv .u8 f)) 23)).alloc (.cells (rfC rf0) 35)) B g N F k lg q) := hd.below hb1
  have HNC : Hid (¬ foot g N q c) := hnc
  have HNM : Hid (¬ foot g N q m) := hnm
  have HLO : Hid (∀ z, foot g N q z → z < w.heap.size) := fun z hz => (hd.foots z hz).2
  have HLT : Hid (c < w.heap.size ∧ m < w.heap.size) := ⟨hg.lt, hm.lt⟩
  have HBW : Hid (B ≤ w.heap.size) := hB
  have HS1 : Hid (w.heap.size + 2 ≤ ((w.alloc (.cells (va 256 (iv .u8 f)) 23)).alloc (.cells (rfC rf0) 35)).heap.size) := by
    show _ ≤ _
    simp
  have HCN : Hid (0 ≤ cn ∧ cn < 4611686018427387904) := hcn
  have haU : (a : Int) < 8192 := by omega
  have hwr : IntKind.i64.wrap (a : Int) = (a : Int) := by
    rw [IntKind.wrap_i64]
    omega
  clear hg hm hd hnc hnm hB hr hcn ha haN hN hk hlg hq
  go_enter Try.func6, Try.ntmps6
  go_wp2_with fail
  generalize ((w.alloc (.cells (va 256 (iv .u8 f)) 23)).alloc (.cells (rfC rf0) 35)) = w1 at *
  refine (hML.out _ g1 HD1.out).mono ?_
  rintro e _ ⟨rfl, rfl⟩
  go_wp2_with fail
  go_cut [8] (fun v8 wx => ∃ x, v8 = .pointer (some ⟨x, 0, none⟩) ∧ w1.heap.size ≤ x ∧ Blk wx x 35 (rfC (a, dgB f)) ∧ Below w1.heap.size w1 wx)
  case first =>
    have hS0 : Blk w1.drew c 75 (caC (some ⟨g, 0, none⟩) none room m none none h r bd cn) ∧ Blk w1.drew w.heap.size 23 (va 256 (iv .u8 f)) := ⟨g1, b1⟩
    have hwd : Below w1.heap.size w1 w1.drew := (Below.refl _ _).drew
    have HWS : Hid (w1.drew.heap.size = w1.heap.size) := rfl
    refine wp_region_plan (fun W => Blk W c 75 (caC (some ⟨g, 0, none⟩) none room m none none h r bd cn) ∧ Blk W w.heap.size 23 (va 256 (iv .u8 f))) (.yield [0, 4] 1 (.yield [] 2 (.yield [] 3 (.yield [] 5 (.fork 6 7 (.force [] 7 (.force [] 8 (.fin []))) (.force [] 6 (.force [] 8 (.fin [])))))))) (by kernel_rfl) (by kernel_rfl) hS0 (plan_yield ?_)
    generalize w1.drew = wd at *
    simp only [List.cons_append, List.nil_append, List.append_nil, List.filterMap_cons, List.filterMap_nil, List.getElem?_toArray, List.getElem?_cons_zero, List.getElem?_cons_succ]
    go_wp2_with fail
    refine ⟨rfl, _, .pointer (some ⟨c, 0, none⟩), rfl, Or.inl ⟨by rfl, fun W hW => by go_simp⟩, plan_yield ?_⟩
    simp only [Act.put, List.setIfInBounds_toArray, List.set_cons_zero, List.set_cons_succ]
    simp only [List.cons_append, List.nil_append, List.append_nil, List.filterMap_cons, List.filterMap_nil, List.getElem?_toArray, List.getElem?_cons_zero, List.getElem?_cons_succ]
    go_wp2_with fail
    refine ⟨rfl, _, .pointer (some ⟨c, 1, none⟩), rfl, Or.inl ⟨by rfl, fun W hW => by go_simp⟩, plan_yield ?_⟩
    simp only [Act.put, List.setIfInBounds_toArray, List.set_cons_zero, List.set_cons_succ]
    simp only [List.cons_append, List.nil_append, List.append_nil, List.filterMap_cons, List.filterMap_nil, List.getElem?_toArray, List.getElem?_cons_zero, List.getElem?_cons_succ]
    go_wp2_with fail
    refine ⟨rfl, _, .pointer none, rfl, Or.inl ⟨by rfl, fun W hW => by have hW1 : W.cell? ⟨c, 1, none⟩ = some (.pointer none) := (hW.1.cell 1).trans rfl; go_simp⟩, plan_yield ?_⟩
    simp only [Act.put, List.setIfInBounds_toArray, List.set_cons_zero, List.set_cons_succ]
    simp only [List.cons_append, List.nil_append, List.append_nil, List.filterMap_cons, List.filterMap_nil, List.getElem?_toArray, List.getElem?_cons_zero, List.getElem?_cons_succ]
    go_wp2_with fail
    refine ⟨rfl, _, .agg (va 256 (iv .u8 f)), rfl, kyields_load (by rfl) 23 _ (by rfl) w.heap.size 256 (iv .u8 f) (by rfl) _ 23 (fun W hW => hW.2) Try.underlying23 rfl sizeBk, plan_fork ?_ ?_⟩
    simp only [Act.put, List.setIfInBounds_toArray, List.set_cons_zero, List.set_cons_succ]
    · simp only [List.cons_append, List.nil_append, List.append_nil, List.filterMap_cons, List.filterMap_nil, List.getElem?_toArray, List.getElem?_cons_zero, List.getElem?_cons_succ]
      go_wp2_with fail
      refine (hOf.out _).mono ?_
      rintro e w2 ⟨rfl, hb2⟩
      have s2c := hS0.1.below hb2 hS0.1.lt
      have s2b := hS0.2.below hb2 hS0.2.lt
      go_wp2_with fail
      refine ⟨rfl, ⟨s2c, s2b⟩, plan_force ?_⟩
      simp only [List.cons_append, List.nil_append, List.append_nil, List.filterMap_cons, List.filterMap_nil, List.getElem?_toArray, List.getElem?_cons_zero, List.getElem?_cons_succ]
      have q0 := Blk.new w2 35 (rfC rf0)
      go_wp2_with fail
      refine ⟨rfl, ⟨s2c.alloc _, s2b.alloc _⟩, plan_force ?_⟩
      simp only [List.cons_append, List.nil_append, List.append_nil, List.filterMap_cons, List.filterMap_nil, List.getElem?_toArray, List.getElem?_cons_zero, List.getElem?_cons_succ]
      refine wpList_store_row (by rfl) 35 _ _ (by rfl) (w2.heap.size) (rfC (a, dgB f)) (by rfl) (by rfl) 35 (rfC rf0) q0 (slSizeRef.trans (by rw [rfC_size])) (by simp only [rfC_size]) (rfC_all _) ?_
      simp only [Act.put, List.setIfInBounds_toArray, List.set_cons_zero, List.set_cons_succ]
      go_wp2_with fail
      refine ⟨rfl, ⟨(s2c.alloc _).other _ (Nat.ne_of_lt s2c.lt), (s2b.alloc _).other _ (Nat.ne_of_lt s2b.lt)⟩, plan_fin ?_⟩
      simp only [List.cons_append, List.nil_append, List.append_nil, List.filterMap_cons, List.filterMap_nil, List.getElem?_toArray, List.getElem?_cons_zero, List.getElem?_cons_succ]
      go_wp2_with fail
      refine ⟨rfl, ?_⟩
      go_wp2_with fail
      go_meet
      have hws := HWS.out
      have hbx := hwd.trans (hb2.mono (B' := w1.heap.size) (by omega))
      exact ⟨w2.heap.size, rfl, hbx.size, q0.set _, below_setRow (hbx.alloc hbx.size _) hbx.size _⟩
    · simp only [List.cons_append, List.nil_append, List.append_nil, List.filterMap_cons, List.filterMap_nil, List.getElem?_toArray, List.getElem?_cons_zero, List.getElem?_cons_succ]
      have q0 := Blk.new wd 35 (rfC rf0)
      go_wp2_with fail
      refine ⟨rfl, ⟨hS0.1.alloc _, hS0.2.alloc _⟩, plan_force ?_⟩
      simp only [List.cons_append, List.nil_append, List.append_nil, List.filterMap_cons, List.filterMap_nil, List.getElem?_toArray, List.getElem?_cons_zero, List.getElem?_cons_succ]
      go_wp2_with fail
      refine (hOf.out _).mono ?_
      rintro e w2 ⟨rfl, hb2⟩
      have s2c := (hS0.1.alloc _).below hb2 (hS0.1.alloc _).lt
      have s2b := (hS0.2.alloc _).below hb2 (hS0.2.alloc _).lt
      have q2 := q0.below hb2 q0.lt
      have hb3 : Below wd.heap.size wd w2 := (below_new1 wd _).trans (hb2.mono (by simp))
      go_wp2_with fail
      refine ⟨rfl, ⟨s2c, s2b⟩, plan_force ?_⟩
      simp only [List.cons_append, List.nil_append, List.append_nil, List.filterMap_cons, List.filterMap_nil, List.getElem?_toArray, List.getElem?_cons_zero, List.getElem?_cons_succ]
      refine wpList_store_row (by rfl) 35 _ _ (by rfl) (wd.heap.size) (rfC (a, dgB f)) (by rfl) (by rfl) 35 (rfC rf0) q2 (slSizeRef.trans (by rw [rfC_size])) (by simp only [rfC_size]) (rfC_all _) ?_
      simp only [Act.put, List.setIfInBounds_toArray, List.set_cons_zero, List.set_cons_succ]
      go_wp2_with fail
      refine ⟨rfl, ⟨s2c.other _ (Nat.ne_of_lt hS0.1.lt), s2b.other _ (Nat.ne_of_lt hS0.2.lt)⟩, plan_fin ?_⟩
      simp only [List.cons_append, List.nil_append, List.append_nil, List.filterMap_cons, List.filterMap_nil, List.getElem?_toArray, List.getElem?_cons_zero, List.getElem?_cons_succ]
      go_wp2_with fail
      refine ⟨rfl, ?_⟩
      go_wp2_with fail
      go_meet
      have hws := HWS.out
      have hbx := hwd.trans (hb3.mono (B' := w1.heap.size) (by omega))
      exact ⟨wd.heap.size, rfl, by omega, q2.set _, below_setRow hbx (by omega) _⟩
  case rest =>
    obtain ⟨x, rfl, hx, x3, hb3⟩ := hcut
    rename World => w3
    have g3 := g1.below hb3 g1.lt
    have b3 := b1.below hb3 b1.lt
    have p3 := p1.below hb3 p1.lt
    have HP3 : Hid (w.heap.size + 1 < w3.drew.heap.size) := p3.lt
    have HM3 : Hid (MapIs rfV ptV w3 m []) := HM1.out.below hb3 HM1.out.lt
    have HD3 : Hid (DiskQ w3.drew B g N F k lg q) := (HD1.out.below hb3).below (Below.refl _ _).drew
    have HX3 : Hid (w.heap.size + 2 ≤ x) := Nat.le_trans HS1.out hx
    have HB3 : Hid (Below w.heap.size w w3.drew) := (hb1.trans (hb3.mono hb1.size)).drew
    have HSZ3 : Hid (B ≤ w3.drew.heap.size) := Nat.le_trans HBW.out HB3.out.size
    clear g1 b1 p1 HM1 HD1 hx hb3 hb1 hML hOf HS1
    go_wp2_with fail
    refine wp_region_partsS (fun W => Blk W c 75 (caC (some ⟨g, 0, none⟩) none room m none none h r bd cn)) [([0, 4], 1, true), ([], 2, true), ([], 3, true), ([], 5, true), ([], 6, false), ([], 7, false)] [8] [] (by kernel_rfl) (by kernel_rfl) g3 (partsI_yield ?_)
    simp only [List.cons_append, List.nil_append, List.append_nil, List.filterMap_cons, List.filterMap_nil, List.getElem?_toArray, List.getElem?_cons_zero, List.getElem?_cons_succ]
    go_wp2_with fail
    refine ⟨rfl, _, .pointer (some ⟨c, 0, none⟩), rfl, Or.inl ⟨by rfl, fun W hW => by go_simp⟩, partsI_yield ?_⟩
    simp only [Act.put, List.setIfInBounds_toArray, List.set_cons_zero, List.set_cons_succ]
    simp only [List.cons_append, List.nil_append, List.append_nil, List.filterMap_cons, List.filterMap_nil, List.getElem?_toArray, List.getElem?_cons_zero, List.getElem?_cons_succ]
    go_wp2_with fail
    refine ⟨rfl, _, .pointer (some ⟨c, 0, none⟩), rfl, Or.inl ⟨by rfl, fun W hW => by go_simp⟩, partsI_yield ?_⟩
    simp only [Act.put, List.setIfInBounds_toArray, List.set_cons_zero, List.set_cons_succ]
    simp only [List.cons_append, List.nil_append, List.append_nil, List.filterMap_cons, List.filterMap_nil, List.getElem?_toArray, List.getElem?_cons_zero, List.getElem?_cons_succ]
    go_wp2_with fail
    refine ⟨rfl, _, .pointer (some ⟨g, 0, none⟩), rfl, Or.inl ⟨by rfl, fun W hW => by have hW1 : W.cell? ⟨c, 0, none⟩ = some (.pointer (some ⟨g, 0, none⟩)) := (hW.cell 0).trans rfl; go_simp⟩, partsI_yield ?_⟩
    simp only [Act.put, List.setIfInBounds_toArray, List.set_cons_zero, List.set_cons_succ]
    simp only [List.cons_append, List.nil_append, List.append_nil, List.filterMap_cons, List.filterMap_nil, List.getElem?_toArray, List.getElem?_cons_zero, List.getElem?_cons_succ]
    go_wp2_with fail
    refine ⟨rfl, _, .int .i64 (a : Int), rfl, Or.inl ⟨by rfl, fun W hW => by go_simp⟩, partsI_force ?_⟩
    simp only [Act.put, List.setIfInBounds_toArray, List.set_cons_zero, List.set_cons_succ]
    simp only [List.cons_append, List.nil_append, List.append_nil, List.filterMap_cons, List.filterMap_nil, List.getElem?_toArray, List.getElem?_cons_zero, List.getElem?_cons_succ]
    refine wpList_load_rowg (by rfl) 23 _ (by rfl) (w.heap.size) (by rfl) 23 (va 256 (iv .u8 f)) (0, 0) _ b3.drew Try.underlying23 (by rfl) (sizeBk.trans (by rw [va_size])) ?_
    simp only [Act.put, List.setIfInBounds_toArray, List.set_cons_zero, List.set_cons_succ]
    go_wp2_with fail
    refine ⟨rfl, g3, partsI_force ?_⟩
    simp only [List.cons_append, List.nil_append, List.append_nil, List.filterMap_cons, List.filterMap_nil, List.getElem?_toArray, List.getElem?_cons_zero, List.getElem?_cons_succ]
    go_wp2_with fail
    refine (hWr.out _ HSZ3.out HD3.out).mono ?_
    rintro e w4 ⟨rfl, q4, hd4, hq4, hm4⟩
    have g4 : Blk w4 c 75 (caC (some ⟨g, 0, none⟩) none room m none none h r bd cn) := hm4.1.blk g3 HNC.out
    have b4 : Blk w4 w.heap.size 23 (va 256 (iv .u8 f)) := hm4.1.blk b3 (fun z => by have := HLO.out _ z; omega)
    have p4 : Blk w4 (w.heap.size + 1) 35 (rfC rf0) := hm4.1.blk p3 (fun z => by have := HLO.out _ z; omega)
    have x4 : Blk w4 x 35 (rfC (a, dgB f)) := hm4.1.blk x3 (fun z => by have := HLO.out _ z; have := HX3.out; omega)
    have HM4 : Hid (MapIs rfV ptV w4 m []) := HM3.out.of (hm4.1.block m HM3.out.lt HNM.out)
    have HD4 : Hid (DiskQ w4 B g N (putAt F (a * 256) 256 f) (k + 1) (lg + 1) q4) := hd4
    have HQ4 : Hid (Quiet q4 (k + 1)) := hq4
    have HMV : Hid (Moved g N q q4 w3.drew w4) := hm4
    clear hd4 hq4 hm4
    go_wp2_with fail
    refine ⟨rfl, g4, partsI_last ?_⟩
    simp only [List.cons_append, List.nil_append, List.append_nil, List.filterMap_cons, List.filterMap_nil, List.getElem?_toArray, List.getElem?_cons_zero, List.getElem?_cons_succ]
    go_wp2_with fail
    refine ⟨rfl, ?_⟩
    clear g3 b3 p3 x3 HM3 HD3 hWr HSZ3
    have c9 : w4.cell? ⟨c, 9, none⟩ = some (.int .i64 cn) := (g4.cell 9).trans rfl
    have f9 : w4.frozen? ⟨c, 9, none⟩ = false := g4.frozen 9
    have HG5 : Hid (Blk (w4.setCell ⟨c, 9, none⟩ (.int .i64 (cn + 1))) c 75 (caC (some ⟨g, 0, none⟩) none room m none none h r bd (cn + 1))) := g4.put 9 _
    have hxc : x ≠ c := by
      have := HX3.out
      have := HLT.out
      omega
    have x5 : Blk (w4.setCell ⟨c, 9, none⟩ (.int .i64 (cn + 1))) x 35 (rfC (a, dgB f)) := blk_setOther x4 hxc
    have b5 : Blk (w4.setCell ⟨c, 9, none⟩ (.int .i64 (cn + 1))) w.heap.size 23 (va 256 (iv .u8 f)) := blk_setOther b4 (by have := HLT.out; omega)
    have p5 : Blk (w4.setCell ⟨c, 9, none⟩ (.int .i64 (cn + 1))) (w.heap.size + 1) 35 (rfC rf0) := blk_setOther p4 (by have := HLT.out; omega)
    have HM5 : Hid (MapIs rfV ptV (w4.setCell ⟨c, 9, none⟩ (.int .i64 (cn + 1))) m []) := HM4.out.of (Deep.blk_setCell_other w4 ⟨c, 9, none⟩ _ m (HM4.out.ne g4))
    have HF4 : Hid (∀ z, foot g N q4 z → foot g N q z ∨ w.heap.size ≤ z) := fun z hz => (HMV.out.2 z hz).imp id fun e => Nat.le_trans HB3.out.size e
    have HNC4 : Hid (∀ z, foot g N q4 z → z ≠ c ∧ z ≠ m) := fun z hz => by
      have hlt := HLT.out
      rcases HF4.out z hz with e | e
      · exact ⟨fun u => HNC.out (u ▸ e), fun u => HNM.out (u ▸ e)⟩
      · omega
    have HD5 : Hid (DiskQ (w4.setCell ⟨c, 9, none⟩ (.int .i64 (cn + 1))) B g N (putAt F (a * 256) 256 f) (k + 1) (lg + 1) q4) := HD4.out.kept fun z hz => Deep.blk_setCell_other w4 ⟨c, 9, none⟩ _ z (HNC4.out z hz).1
    have HT5 : Hid (Turns (cafoot g N q c m) w (w4.setCell ⟨c, 9, none⟩ (.int .i64 (cn + 1)))) := turns_set ((Turns.of_below (S := cafoot g N q c m) HB3.out).trans (T := foot g N q) HMV.out.1 fun z hz => .inl (.inl hz)) (.inr (.inl rfl))
    obtain ⟨hc0, hc1⟩ := HCN.out
    clear g4 x4 b4 p4 HM4 HD4
    go_wp2_with (first
      | (refine wpList_load_rowg (by rfl) 35 _ (by rfl) (x) (by rfl) 35 (rfC (a, dgB f)) (0, 0) _ (by exact x5) Try.underlying35 (by rfl) (slSizeRef.trans (by rw [rfC_size])) ?_; simp only [Act.put, List.setIfInBounds_toArray, List.set_cons_zero, List.set_cons_succ])
      | (refine wpList_load_row (by rfl) 23 _ (by rfl) (w.heap.size) (by rfl) 23 (va 256 (iv .u8 f)) (0, 0) _ b5 Try.underlying23 (by rfl) (sizeBk.trans (by rw [va_size])) ?_; simp only [Act.put, List.setIfInBounds_toArray, List.set_cons_zero, List.set_cons_succ])
      | fail)
    clear c9 f9
    generalize (w4.setCell ⟨c, 9, none⟩ (.int .i64 (cn + 1))) = w5 at *
    refine (hKp.out _ HG5.out HM5.out).mono ?_
    rintro e w6 ⟨rfl, b, hb6, hg6, he6, hm6, ht6⟩
    have x6 : Blk w6 x 35 (rfC (a, dgB f)) := ht6.blk x5 (fun z => by have := HX3.out; have := HLT.out; rcases z with z | z <;> omega)
    have p6 : Blk w6 (w.heap.size + 1) 35 (rfC rf0) := ht6.blk p5 (fun z => by have := HLT.out; rcases z with z | z <;> omega)
    have HG6 : Hid (Blk w6 c 75 (caC (some ⟨g, 0, none⟩) none room m (some ⟨b, 0, none⟩) (some ⟨b, 0, none⟩) h r bd (cn + 1))) := hg6
    have HE6 : Hid (Blk w6 b 95 (enC (a, dgB f) f none none)) := he6
    have HM6 : Hid (MapIs rfV ptV w6 m [((a, dgB f), b)]) := hm6
    have HT6 : Hid (Turns (cafoot g N q c m) w w6) := HT5.out.trans ht6 fun z hz => .inl (.inr hz)
    have HD6 : Hid (DiskQ w6 B g N (putAt F (a * 256) 256 f) (k + 1) (lg + 1) q4) := HD5.out.kept fun z hz => ht6.block z (HD5.out.foots z hz).2 fun u => by
      have := HNC4.out z hz
      rcases u with u | u
      · exact this.1 u
      · exact this.2 u
    have HFB : Hid (∀ z, foot g N q4 z → z ≠ c ∧ z ≠ m ∧ z ≠ b) := fun z hz => ⟨(HNC4.out z hz).1, (HNC4.out z hz).2, by have := (HD5.out.foots z hz).2; omega⟩
    have HBB : Hid (w.heap.size ≤ b) := Nat.le_trans HT5.out.size hb6
    have HBP : Hid (b ≠ w.heap.size + 1) := by
      have := p5.lt
      show _ ≠ _
      omega
    clear hg6 he6 hm6 ht6 hb6 x5 b5 p5 HG5 HM5 HD5 HT5 hKp
    go_wp2_with (first
      | (refine wpList_load_rowg (by rfl) 35 _ (by rfl) (x) (by rfl) 35 (rfC (a, dgB f)) (0, 0) _ (by exact x6) Try.underlying35 (by rfl) (slSizeRef.trans (by rw [rfC_size])) ?_; simp only [Act.put, List.setIfInBounds_toArray, List.set_cons_zero, List.set_cons_succ])
      | (refine wpList_store_row (by rfl) 35 _ _ (by rfl) (w.heap.size + 1) (rfC (a, dgB f)) (by rfl) (by rfl) 35 (_) (by exact p6) (slSizeRef.trans (by rw [rfC_size])) (by simp only [rfC_size]) (rfC_all _) ?_; simp only [Act.put, List.setIfInBounds_toArray, List.set_cons_zero, List.set_cons_succ])
      | fail)
    try simp only [Exit.inBlock, Exit.then]
    refine bodyPost_ret (results_row2 Try.results6 _ _ (w.heap.size + 1) 35 (rfC (a, dgB f)) (0, 0) _ rfl (p6.set _) Try.underlying35 rfl (slSizeRef.trans (by rw [rfC_size]))) rfl ?_
    have hlt := HLT.out
    have hbp := HBP.out
    have hne : ∀ z, foot g N q4 z → z ≠ w.heap.size + 1 := fun z hz e => by
      rcases HMV.out.2 z hz with u | u
      · have := HLO.out z u
        omega
      · have := HP3.out
        omega
    exact ⟨rfl, b, q4, HBB.out, HG6.out.other _ (by omega), HE6.out.other _ hbp, HM6.out.of (setRow_other _ _ _ _ (by omega)), HD6.out.kept fun z hz => setRow_other _ _ _ _ (hne z hz), HQ4.out, HT6.out.laid (by omega) _, HF4.out, HFB.out⟩
end
end Go.Proofs.Ytdniigefmlmcdab
