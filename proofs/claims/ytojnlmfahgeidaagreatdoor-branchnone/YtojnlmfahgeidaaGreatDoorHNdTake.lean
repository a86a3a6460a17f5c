/- A number of four bytes taken out of a text: the program's Take32, the document's Take. Texts of every length that there can be. -/
import Derived.Test.YtojnlmfahgeidaaGreatDoorHBlkGroups
import Derived.Deep.MidRow
import Derived.Handy
import Derived.Test.YtojnlmfahgeidaaGreatDoorHMathDigest
import Derived.Test.YtojnlmfahgeidaaGreatDoorHMathCount
import Derived.Test.YtojnlmfahgeidaaGreatDoorHNaDecode
import Derived.Test.YtojnlmfahgeidaaGreatDoorHBytes
import Derived.Lib.ConvBytes

namespace Go.Proofs.YtojnlmfahgeidaaGreatDoor
open Go Go.RowKit
set_option linter.unusedSimpArgs false
set_option linter.unusedVariables false

/-- a raw step and a block, as a key -/
def momK (a : Int × Int) : Value := .agg #[.int .i64 a.1, .int .i64 a.2]
/-- what a disk has in the memory -/
structure QD where
  gn : Nat
  r : Nat
  sv : Value
  pl : Value
  cu : Value
  dd : Bool
  ev : Int
  lv : Value
  wv : Value
  l : List ((Int × Int) × Vector Nat 256)
  G : List (List Nat)
  ss : List Value
  xs : List Value
  ys : List Value
def dcells (q : QD) (N k : Nat) : Array Value := #[.slice (some ⟨q.gn, 0, none⟩) N N, .map (some q.r), q.sv, q.pl, q.cu, .bool q.dd, .int .i64 (k : Int), .int .i64 q.ev, q.lv, q.wv]
/-- a disk of N blocks in block g: the bytes F, k raw steps, lg entries of the log -/
structure DiskQ (w : World) (B g N : Nat) (F : Nat → Nat) (k lg : Nat) (q : QD) : Prop where
  gB : B ≤ g
  cells : Blk w g 198 (dcells q N k)
  nB : B ≤ q.gn
  now : Blk w q.gn 237 (va (N * 256) (iv .u8 F))
  rB : B ≤ q.r
  map : MapIs momK bK w q.r q.l
  keys : ∀ p ∈ q.l, p.1.1 ≤ (k : Int)
  steps : GrpAt w B q.sv q.G q.ss
  many : q.G.length = N
  short : ∀ j, (q.G.getD j []).length ≤ k + 1
  log : w.ownsRow B 414 258 q.lv lg q.xs
  wear : w.ownsRow B 3 1 q.wv N q.ys
  ints : ∀ j, j < N → ∃ x : Int, q.ys[j]? = some (.int .i64 x)
  apart : ∀ j, j < N → ∀ b, (q.ss.getD j undef).ownBlock = some b → q.wv.ownBlock ≠ some b
/-- its blocks in the memory -/
def foot (g N : Nat) (q : QD) (b : Nat) : Prop := b = g ∨ b = q.gn ∨ b = q.r ∨ q.sv.ownBlock = some b ∨ q.lv.ownBlock = some b ∨ q.wv.ownBlock = some b ∨ ∃ j, j < N ∧ (q.ss.getD j undef).ownBlock = some b
/-- only blocks of S turn -/
structure Turns (S : Nat → Prop) (w w' : World) : Prop where
  os : w'.os = w.os
  tape : w'.tape = w.tape
  output : w'.output = w.output
  size : w.heap.size ≤ w'.heap.size
  block : ∀ b, b < w.heap.size → ¬ S b → w'.heap[b]? = w.heap[b]?
theorem Turns.of_below {S : Nat → Prop} {w w' : World} (h : Below w.heap.size w w') : Turns S w w' := ⟨h.os, h.tape, h.output, h.size, fun b hb _ => h.block b hb⟩
theorem Turns.below {S : Nat → Prop} {w w' : World} {B : Nat} (h : Turns S w w') (hB : B ≤ w.heap.size) (hS : ∀ b, S b → B ≤ b) : Below B w w' := ⟨h.os, h.tape, h.output, h.size, fun b hb => h.block b (by omega) fun q => by have := hS b q; omega⟩
theorem Turns.trans {S T : Nat → Prop} {w v u : World} (h : Turns S w v) (k : Turns T v u) (hT : ∀ b, T b → S b ∨ w.heap.size ≤ b) : Turns S w u :=
  ⟨k.os.trans h.os, k.tape.trans h.tape, k.output.trans h.output, Nat.le_trans h.size k.size, fun b hb hS => (k.block b (Nat.lt_of_lt_of_le hb h.size) fun q => by rcases hT b q with z | z; exact hS z; omega).trans (h.block b hb hS)⟩
theorem Turns.mono {S T : Nat → Prop} {w v : World} (h : Turns S w v) (hT : ∀ b, S b → T b) : Turns T w v := ⟨h.os, h.tape, h.output, h.size, fun b hb hS => h.block b hb fun q => hS (hT b q)⟩
theorem Turns.drew {S : Nat → Prop} {w v : World} (h : Turns S w v) : Turns S w v.drew := ⟨h.os, h.tape, h.output, h.size, h.block⟩
/-- a disk goes from q to q' -/
def Moved (g N : Nat) (q q' : QD) (w w' : World) : Prop := Turns (foot g N q) w w' ∧ ∀ b, foot g N q' b → foot g N q b ∨ w.heap.size ≤ b
theorem Moved.of_below {g N : Nat} {q : QD} {w w' : World} (h : Below w.heap.size w w') : Moved g N q q w w' := ⟨.of_below h, fun _ => .inl⟩
theorem Moved.trans {g N : Nat} {p q r : QD} {w v u : World} (h : Moved g N p q w v) (k : Moved g N q r v u) : Moved g N p r w u :=
  ⟨h.1.trans k.1 h.2, fun b hb => by
    rcases k.2 b hb with z | z
    · exact h.2 b z
    · exact .inr (Nat.le_trans h.1.size z)⟩
section
variable {w w' : World} {B g N k lg : Nat} {F : Nat → Nat} {q : QD}
theorem DiskQ.foots (h : DiskQ w B g N F k lg q) : ∀ b, foot g N q b → B ≤ b ∧ b < w.heap.size := by
  intro b hb
  have hm := h.many
  rcases hb with rfl | rfl | rfl | z | z | z | ⟨j, hj, z⟩
  · exact ⟨h.gB, h.cells.lt⟩
  · exact ⟨h.nB, h.now.lt⟩
  · obtain ⟨es, cl, hg, _⟩ := h.map
    exact ⟨h.rB, (Array.getElem?_eq_some_iff.1 hg).1⟩
  · exact h.steps.row.lt b z
  · exact h.log.lt b z
  · exact h.wear.lt b z
  · exact (h.steps.each j (by omega)).lt b z
theorem DiskQ.kept (h : DiskQ w B g N F k lg q) (hk : ∀ b, foot g N q b → w'.heap[b]? = w.heap[b]?) : DiskQ w' B g N F k lg q := by
  have hm := h.many
  refine ⟨h.gB, (hk g (.inl rfl)).trans h.cells, h.nB, (hk _ (.inr (.inl rfl))).trans h.now, h.rB, ?_, h.keys, ⟨own_block h.steps.row fun b hb => hk b (.inr (.inr (.inr (.inl hb)))), fun j hj => own_block (h.steps.each j hj) fun b hb => hk b (.inr (.inr (.inr (.inr (.inr (.inr ⟨j, by omega, hb⟩)))))), h.steps.apart⟩, h.many, h.short, own_block h.log fun b hb => hk b (.inr (.inr (.inr (.inr (.inl hb))))), own_block h.wear fun b hb => hk b (.inr (.inr (.inr (.inr (.inr (.inl hb)))))), h.ints, h.apart⟩
  obtain ⟨es, cl, hg, he⟩ := h.map
  exact ⟨es, cl, (hk _ (.inr (.inr (.inl rfl)))).trans hg, he⟩
theorem DiskQ.below (h : DiskQ w B g N F k lg q) (hb : Below w.heap.size w w') : DiskQ w' B g N F k lg q := h.kept fun b hf => hb.block b (h.foots b hf).2
theorem blk_ne {a b s t : Nat} {cs ds : Array Value} (h : Blk w a s cs) (k : Blk w b t ds) (hne : s ≠ t) : a ≠ b := fun e => by
  subst e
  unfold Blk at h k
  rw [h] at k
  simp at k
  exact hne k.2
/-- what is in block g turns: counts -/
theorem DiskQ.put (h : DiskQ w B g N F k lg q) {k' : Nat} (hk : k ≤ k') (ev : Int) (hB : Blk w' g 198 (dcells { q with ev := ev } N k')) (hs : ∀ b, b ≠ g → w'.heap[b]? = w.heap[b]?) : DiskQ w' B g N F k' lg { q with ev := ev } := by
  have hm := h.many
  refine ⟨h.gB, hB, h.nB, (hs _ (blk_ne h.now h.cells (by decide))).trans h.now, h.rB, ?_, fun p hp => by have := h.keys p hp; omega, ⟨own_block h.steps.row fun b hb => hs b fun e => own_ne h.steps.row h.cells (by decide) (e ▸ hb), fun j hj => own_block (h.steps.each j hj) fun b hb => hs b fun e => own_ne (h.steps.each j hj) h.cells (by decide) (e ▸ hb), h.steps.apart⟩, h.many, fun j => Nat.le_trans (h.short j) (Nat.succ_le_succ hk), own_block h.log fun b hb => hs b fun e => own_ne h.log h.cells (by decide) (e ▸ hb), own_block h.wear fun b hb => hs b fun e => own_ne h.wear h.cells (by decide) (e ▸ hb), h.ints, h.apart⟩
  obtain ⟨es, cl, hg, he⟩ := h.map
  exact ⟨es, cl, (hs _ (map_blk hg h.cells)).trans hg, he⟩
/-- the blocks' bytes turn -/
theorem DiskQ.renow (h : DiskQ w B g N F k lg q) {F' : Nat → Nat} (hn : Blk w' q.gn 237 (va (N * 256) (iv .u8 F'))) (hs : ∀ b, b ≠ q.gn → w'.heap[b]? = w.heap[b]?) : DiskQ w' B g N F' k lg q := by
  have hm := h.many
  obtain ⟨es, cl, hg, he⟩ := h.map
  refine ⟨h.gB, (hs _ (blk_ne h.cells h.now (by decide))).trans h.cells, h.nB, hn, h.rB, ⟨es, cl, (hs _ (map_blk hg h.now)).trans hg, he⟩, h.keys, ⟨own_block h.steps.row fun b hb => hs b fun e => own_ne h.steps.row h.now (by decide) (e ▸ hb), fun j hj => own_block (h.steps.each j hj) fun b hb => hs b fun e => own_ne (h.steps.each j hj) h.now (by decide) (e ▸ hb), h.steps.apart⟩, h.many, h.short, own_block h.log fun b hb => hs b fun e => own_ne h.log h.now (by decide) (e ▸ hb), own_block h.wear fun b hb => hs b fun e => own_ne h.wear h.now (by decide) (e ▸ hb), h.ints, h.apart⟩
end
end Go.Proofs.YtojnlmfahgeidaaGreatDoor

namespace Go.Proofs.YtojnlmfahgeidaaGreatDoor
open Go Go.RowKit
set_option linter.unusedSimpArgs false
set_option linter.unusedVariables false
theorem st_nil (P : Program) (w : World) (a : Addr) (m : Mode) : (store a .nilFunc m).run P w = stored P w a .nilFunc m := run_store P w a _ m rfl
theorem st_fun (P : Program) (w : World) (a : Addr) (m : Mode) (f : Fn) (b c : Array Value) : (store a (.func f b c) m).run P w = stored P w a (.func f b c) m := run_store P w a _ m rfl
attribute [local go_sem] st_nil st_fun
theorem pt_zero (w : World) : (zeroValue 94).run Tryz.prog w = .ok (.agg #[.slice none 0 0, .bool false]) w := di_zero (by kernel_rfl) w
theorem sp_zero (w : World) : (zeroValue 163).run Tryz.prog w = .ok (.agg #[.int .i64 0, .string ⟨#[]⟩, .slice none 0 0, .bool false]) w := di_zero (by kernel_rfl) w
theorem mv_zero (w : World) : (zeroValue 161).run Tryz.prog w = .ok (.agg #[.pointer none, .int .u64 0, .nilFunc]) w := di_zero (by kernel_rfl) w
theorem n5_zero (w : World) : (zeroValue 86).run Tryz.prog w = .ok (.agg #[.int .i64 0, .int .i64 0, .int .i64 0, .int .i64 0, .int .u64 0]) w := di_zero (by kernel_rfl) w
theorem size_pt : (Tryz.prog.info? 94).map (·.size) = some 2 := by kernel_rfl
theorem size_sp : (Tryz.prog.info? 163).map (·.size) = some 4 := by kernel_rfl
theorem res_ttct {P : Program} {fn : Func} {p q r u : Tmp} {ty : TypeId} (h : fn.results = #[.tmp p, .tmp q, .cell r ty, .tmp u]) (tmps : Array Value) (w : World) (g : Nat) (t : TypeId) (cs : Array Value) (d : TypeDesc)
    (hr : tmps.getD r undef = .pointer (some ⟨g, 0, none⟩)) (hg : Blk w g t cs)
    (hu : P.underlying ty = some d) (hd : (match d with | .struct _ | .array _ _ => true | _ => false) = true) (hi : (P.info? ty).map (·.size) = some cs.size) :
    (results fn tmps).run P w = .ok (.tuple #[tmps.getD p undef, tmps.getD q undef, .agg cs, tmps.getD u undef]) w := by
  have hr' : tmps[r]?.getD undef = .pointer (some ⟨g, 0, none⟩) := by simpa using hr
  simp [results, h, hr', asAddr, run_loadVar_row w g t ty cs (0, 0) d hg hu hd hi]
theorem res_cct {P : Program} {fn : Func} {p q u : Tmp} {ty ty' : TypeId} (h : fn.results = #[.cell p ty, .cell q ty', .tmp u]) (tmps : Array Value) (w : World) (g g' : Nat) (t t' : TypeId) (cs cs' : Array Value) (d d' : TypeDesc)
    (hp : tmps.getD p undef = .pointer (some ⟨g, 0, none⟩)) (hq : tmps.getD q undef = .pointer (some ⟨g', 0, none⟩)) (hg : Blk w g t cs) (hg' : Blk w g' t' cs')
    (hu : P.underlying ty = some d) (hd : (match d with | .struct _ | .array _ _ => true | _ => false) = true) (hi : (P.info? ty).map (·.size) = some cs.size)
    (hu' : P.underlying ty' = some d') (hd' : (match d' with | .struct _ | .array _ _ => true | _ => false) = true) (hi' : (P.info? ty').map (·.size) = some cs'.size) :
    (results fn tmps).run P w = .ok (.tuple #[.agg cs, .agg cs', tmps.getD u undef]) w := by
  have hp' : tmps[p]?.getD undef = .pointer (some ⟨g, 0, none⟩) := by simpa using hp
  have hq' : tmps[q]?.getD undef = .pointer (some ⟨g', 0, none⟩) := by simpa using hq
  simp [results, h, hp', hq', asAddr, run_loadVar_row w g t ty cs (0, 0) d hg hu hd hi, run_loadVar_row w g' t' ty' cs' (0, 0) d' hg' hu' hd' hi']
set_option maxRecDepth 100000 in
set_option maxHeartbeats 4000000 in
theorem brparent_nil (s : ByteArray) (w : World) : Calls Tryz.prog 39 #[.pointer none, .string s] w fun e w' => e = .returned (.tuple #[.int .i64 0, .string ⟨#[]⟩, .agg #[.slice none 0 0, .bool false], .int .i64 1]) ∧ Below w.heap.size w w' := by
  have hz := pt_zero
  have b1 : Blk (w.alloc (.cells #[.slice none 0 0, .bool false] 94)) w.heap.size 94 #[.slice none 0 0, .bool false] := Blk.new _ _ _
  have HB : Hid (Below w.heap.size w (w.alloc (.cells #[.slice none 0 0, .bool false] 94))) := below_new1 _ _
  go_enter Tryz.func39, Tryz.ntmps39
  go_wp2_with fail
  try simp only [Exit.inBlock, Exit.then]
  refine bodyPost_ret (res_ttct Tryz.results39 _ _ w.heap.size 94 #[.slice none 0 0, .bool false] _ rfl b1 Tryz.underlying94 rfl (size_pt.trans rfl)) rfl ?_
  exact ⟨rfl, HB.out⟩
set_option maxRecDepth 100000 in
set_option maxHeartbeats 4000000 in
theorem brlookup_nil (s : ByteArray) (w : World) : Calls Tryz.prog 37 #[.pointer none, .string s] w fun e w' => e = .returned (.tuple #[.agg #[.int .i64 0, .int .i64 0, .int .i64 0, .int .i64 0, .int .u64 0], .int .i64 1]) ∧ Below w.heap.size w w' := by
  have hz := zero_nf
  have b1 : Blk (w.alloc (.cells nf0 86)) w.heap.size 86 nf0 := Blk.new _ _ _
  have r1 := b1.set nf0
  have HB : Hid (Below w.heap.size w ((w.alloc (.cells nf0 86)).setRow w.heap.size nf0)) := below_setRow (below_new1 _ _) (Nat.le_refl _) _
  have hbt := built_nf0
  go_enter Tryz.func37, Tryz.ntmps37
  go_wp2_with (first
    | (refine wpList_buildTo (by rfl) 86 #[] (by rfl) _ rfl nf0 (by exact hbt) ?_; simp only [Act.put, List.setIfInBounds_toArray, List.set_cons_zero, List.set_cons_succ])
    | (refine wpList_store_row (by rfl) 86 _ _ (by rfl) (w.heap.size) nf0 (by rfl) (by rfl) 86 (nf0) (by exact b1) (size_nf.trans (by rfl)) (by rfl) (nf_all _ _ _ _ _) ?_; simp only [Act.put, List.setIfInBounds_toArray, List.set_cons_zero, List.set_cons_succ])
    | fail)
  try simp only [Exit.inBlock, Exit.then]
  refine bodyPost_ret (results_row2 Tryz.results37 _ _ w.heap.size 86 nf0 (0, 0) _ rfl r1 Tryz.underlying86 rfl (size_nf.trans (by rfl))) rfl ?_
  exact ⟨rfl, HB.out⟩
set_option maxRecDepth 100000 in
set_option maxHeartbeats 4000000 in
theorem brspot_nil (s : ByteArray) (st : Int) (fv : Value) (hf : fv.oneCell' = true) (w : World) : Calls Tryz.prog 86 #[.agg #[.pointer none, .int .u64 st, fv], .string s] w fun e w' => e = .returned (.tuple #[.agg #[.int .i64 0, .string ⟨#[]⟩, .slice none 0 0, .bool false], .int .i64 1]) ∧ Below w.heap.size w w' := by
  have hz := sp_zero
  have hz2 := pt_zero
  have HP : Hid (∀ w : World, Calls Tryz.prog 39 #[.pointer none, .string s] w fun e w' => e = .returned (.tuple #[.int .i64 0, .string ⟨#[]⟩, .agg #[.slice none 0 0, .bool false], .int .i64 1]) ∧ Below w.heap.size w w') := brparent_nil s
  have b0 : Blk ((w.alloc (.cells #[.pointer none, .int .u64 st, fv] 161)).alloc (.cells #[.int .i64 0, .string ⟨#[]⟩, .slice none 0 0, .bool false] 163)) w.heap.size 161 #[.pointer none, .int .u64 st, fv] := Blk.alloc (Blk.new _ _ _) _
  have b1 : Blk ((w.alloc (.cells #[.pointer none, .int .u64 st, fv] 161)).alloc (.cells #[.int .i64 0, .string ⟨#[]⟩, .slice none 0 0, .bool false] 163)) (w.heap.size + 1) 163 #[.int .i64 0, .string ⟨#[]⟩, .slice none 0 0, .bool false] := Blk.new1 _ _ _ _
  have hb : Below w.heap.size w ((w.alloc (.cells #[.pointer none, .int .u64 st, fv] 161)).alloc (.cells #[.int .i64 0, .string ⟨#[]⟩, .slice none 0 0, .bool false] 163)) := below_new2 _ _ _
  have c0' := (b0.cell 0).trans rfl
  go_enter Tryz.func86, Tryz.ntmps86
  go_wp2_with fail
  generalize ((w.alloc (.cells #[.pointer none, .int .u64 st, fv] 161)).alloc (.cells #[.int .i64 0, .string ⟨#[]⟩, .slice none 0 0, .bool false] 163)) = w1 at *
  refine (HP.out _).mono ?_
  rintro e w2 ⟨rfl, hb2⟩
  have b2 := b1.below hb2 b1.lt
  have hb12 := hb.trans (hb2.mono hb.size)
  have b3 : Blk (w2.alloc (.cells #[.slice none 0 0, .bool false] 94)) (w.heap.size + 1) 163 #[.int .i64 0, .string ⟨#[]⟩, .slice none 0 0, .bool false] := b2.alloc _
  have r3 := (((b3.put 0 (.int .i64 0)).put 1 (.string ⟨#[]⟩)).put 2 (.slice none 0 0)).put 3 (.bool false)
  have HB : Hid (Below w.heap.size w (((((w2.alloc (.cells #[.slice none 0 0, .bool false] 94)).setCell ⟨w.heap.size + 1, 0, none⟩ (.int .i64 0)).setCell ⟨w.heap.size + 1, 1, none⟩ (.string ⟨#[]⟩)).setCell ⟨w.heap.size + 1, 2, none⟩ (.slice none 0 0)).setCell ⟨w.heap.size + 1, 3, none⟩ (.bool false))) := ((((hb12.alloc hb12.size _).setCell (p := ⟨w.heap.size + 1, 0, none⟩) (by show w.heap.size ≤ w.heap.size + 1; omega) _).setCell (p := ⟨w.heap.size + 1, 1, none⟩) (by show w.heap.size ≤ w.heap.size + 1; omega) _).setCell (p := ⟨w.heap.size + 1, 2, none⟩) (by show w.heap.size ≤ w.heap.size + 1; omega) _).setCell (p := ⟨w.heap.size + 1, 3, none⟩) (by show w.heap.size ≤ w.heap.size + 1; omega) _
  have c0 := (b3.cell 0).trans rfl
  have c1 := (b3.cell 1).trans rfl
  have c2 := (b3.cell 2).trans rfl
  have c3 := (b3.cell 3).trans rfl
  have f0 := b3.frozen 0
  have f1 := b3.frozen 1
  have f2 := b3.frozen 2
  have f3 := b3.frozen 3
  clear b0 b1 hb hb2 HP b2
  go_wp2_with fail
  try simp only [Exit.inBlock, Exit.then]
  refine bodyPost_ret (results_row2 Tryz.results86 _ _ (w.heap.size + 1) 163 #[.int .i64 0, .string ⟨#[]⟩, .slice none 0 0, .bool false] (0, 0) _ rfl r3 Tryz.underlying163 rfl (size_sp.trans (by rfl))) rfl ?_
  exact ⟨rfl, HB.out⟩
set_option maxRecDepth 100000 in
set_option maxHeartbeats 4000000 in
theorem brtaken_nil (s : ByteArray) (st : Int) (fv : Value) (hf : fv.oneCell' = true) (w : World) : Calls Tryz.prog 93 #[.agg #[.pointer none, .int .u64 st, fv], .string s] w fun e w' => e = .returned (.tuple #[.agg #[.int .i64 0, .string ⟨#[]⟩, .slice none 0 0, .bool false], .agg #[.int .i64 0, .int .i64 0, .int .i64 0, .int .i64 0, .int .u64 0], .int .i64 1]) ∧ Below w.heap.size w w' := by
  have hz := sp_zero
  have hz2 := n5_zero
  have HS : Hid (∀ w : World, Calls Tryz.prog 86 #[.agg #[.pointer none, .int .u64 st, fv], .string s] w fun e w' => e = .returned (.tuple #[.agg #[.int .i64 0, .string ⟨#[]⟩, .slice none 0 0, .bool false], .int .i64 1]) ∧ Below w.heap.size w w') := fun w => brspot_nil s st fv hf w
  have b0 : Blk (((w.alloc (.cells #[.pointer none, .int .u64 st, fv] 161)).alloc (.cells #[.int .i64 0, .string ⟨#[]⟩, .slice none 0 0, .bool false] 163)).alloc (.cells #[.int .i64 0, .int .i64 0, .int .i64 0, .int .i64 0, .int .u64 0] 86)) w.heap.size 161 #[.pointer none, .int .u64 st, fv] := Blk.alloc (Blk.alloc (Blk.new _ _ _) _) _
  have b1 : Blk (((w.alloc (.cells #[.pointer none, .int .u64 st, fv] 161)).alloc (.cells #[.int .i64 0, .string ⟨#[]⟩, .slice none 0 0, .bool false] 163)).alloc (.cells #[.int .i64 0, .int .i64 0, .int .i64 0, .int .i64 0, .int .u64 0] 86)) (w.heap.size + 1) 163 #[.int .i64 0, .string ⟨#[]⟩, .slice none 0 0, .bool false] := Blk.alloc (Blk.new1 _ _ _ _) _
  have b2 : Blk (((w.alloc (.cells #[.pointer none, .int .u64 st, fv] 161)).alloc (.cells #[.int .i64 0, .string ⟨#[]⟩, .slice none 0 0, .bool false] 163)).alloc (.cells #[.int .i64 0, .int .i64 0, .int .i64 0, .int .i64 0, .int .u64 0] 86)) (w.heap.size + 1 + 1) 86 #[.int .i64 0, .int .i64 0, .int .i64 0, .int .i64 0, .int .u64 0] := Blk.new2 _ _ _ _ _
  have hb : Below w.heap.size w (((w.alloc (.cells #[.pointer none, .int .u64 st, fv] 161)).alloc (.cells #[.int .i64 0, .string ⟨#[]⟩, .slice none 0 0, .bool false] 163)).alloc (.cells #[.int .i64 0, .int .i64 0, .int .i64 0, .int .i64 0, .int .u64 0] 86)) := below_new3 _ _ _ _
  have k0 := (b0.cell 0).trans rfl
  have k1 := (b0.cell 1).trans rfl
  have k2 := (b0.cell 2).trans rfl
  go_enter Tryz.func93, Tryz.ntmps93
  go_wp2_with fail
  generalize (((w.alloc (.cells #[.pointer none, .int .u64 st, fv] 161)).alloc (.cells #[.int .i64 0, .string ⟨#[]⟩, .slice none 0 0, .bool false] 163)).alloc (.cells #[.int .i64 0, .int .i64 0, .int .i64 0, .int .i64 0, .int .u64 0] 86)) = w1 at *
  refine (HS.out _).mono ?_
  rintro e w2 ⟨rfl, hb2⟩
  have hb12 := hb.trans (hb2.mono hb.size)
  have c1 := (b1.below hb2 b1.lt).alloc (.cells #[.int .i64 0, .string ⟨#[]⟩, .slice none 0 0, .bool false] 163)
  have c2 := (b2.below hb2 b2.lt).alloc (.cells #[.int .i64 0, .string ⟨#[]⟩, .slice none 0 0, .bool false] 163)
  have hb3 : Below w.heap.size w (w2.alloc (.cells #[.int .i64 0, .string ⟨#[]⟩, .slice none 0 0, .bool false] 163)) := hb12.alloc hb12.size _
  have HB : Hid (Below w.heap.size w ((((((((((w2.alloc (.cells #[.int .i64 0, .string ⟨#[]⟩, .slice none 0 0, .bool false] 163)).setCell ⟨w.heap.size + 1, 0, none⟩ (.int .i64 0)).setCell ⟨w.heap.size + 1, 1, none⟩ (.string ⟨#[]⟩)).setCell ⟨w.heap.size + 1, 2, none⟩ (.slice none 0 0)).setCell ⟨w.heap.size + 1, 3, none⟩ (.bool false)).setCell ⟨w.heap.size + 1 + 1, 0, none⟩ (.int .i64 0)).setCell ⟨w.heap.size + 1 + 1, 1, none⟩ (.int .i64 0)).setCell ⟨w.heap.size + 1 + 1, 2, none⟩ (.int .i64 0)).setCell ⟨w.heap.size + 1 + 1, 3, none⟩ (.int .i64 0)).setCell ⟨w.heap.size + 1 + 1, 4, none⟩ (.int .u64 0))) := (((((((((hb3.setCell (p := ⟨w.heap.size + 1, 0, none⟩) (by show w.heap.size ≤ w.heap.size + 1; omega) (.int .i64 0)).setCell (p := ⟨w.heap.size + 1, 1, none⟩) (by show w.heap.size ≤ w.heap.size + 1; omega) (.string ⟨#[]⟩)).setCell (p := ⟨w.heap.size + 1, 2, none⟩) (by show w.heap.size ≤ w.heap.size + 1; omega) (.slice none 0 0)).setCell (p := ⟨w.heap.size + 1, 3, none⟩) (by show w.heap.size ≤ w.heap.size + 1; omega) (.bool false)).setCell (p := ⟨w.heap.size + 1 + 1, 0, none⟩) (by show w.heap.size ≤ w.heap.size + 1 + 1; omega) (.int .i64 0)).setCell (p := ⟨w.heap.size + 1 + 1, 1, none⟩) (by show w.heap.size ≤ w.heap.size + 1 + 1; omega) (.int .i64 0)).setCell (p := ⟨w.heap.size + 1 + 1, 2, none⟩) (by show w.heap.size ≤ w.heap.size + 1 + 1; omega) (.int .i64 0)).setCell (p := ⟨w.heap.size + 1 + 1, 3, none⟩) (by show w.heap.size ≤ w.heap.size + 1 + 1; omega) (.int .i64 0)).setCell (p := ⟨w.heap.size + 1 + 1, 4, none⟩) (by show w.heap.size ≤ w.heap.size + 1 + 1; omega) (.int .u64 0))
  have r1 : Blk ((((((((((w2.alloc (.cells #[.int .i64 0, .string ⟨#[]⟩, .slice none 0 0, .bool false] 163)).setCell ⟨w.heap.size + 1, 0, none⟩ (.int .i64 0)).setCell ⟨w.heap.size + 1, 1, none⟩ (.string ⟨#[]⟩)).setCell ⟨w.heap.size + 1, 2, none⟩ (.slice none 0 0)).setCell ⟨w.heap.size + 1, 3, none⟩ (.bool false)).setCell ⟨w.heap.size + 1 + 1, 0, none⟩ (.int .i64 0)).setCell ⟨w.heap.size + 1 + 1, 1, none⟩ (.int .i64 0)).setCell ⟨w.heap.size + 1 + 1, 2, none⟩ (.int .i64 0)).setCell ⟨w.heap.size + 1 + 1, 3, none⟩ (.int .i64 0)).setCell ⟨w.heap.size + 1 + 1, 4, none⟩ (.int .u64 0)) (w.heap.size + 1) 163 #[.int .i64 0, .string ⟨#[]⟩, .slice none 0 0, .bool false] := (((((((((c1.put 0 (.int .i64 0)).put 1 (.string ⟨#[]⟩)).put 2 (.slice none 0 0)).put 3 (.bool false)).put_other 0 (.int .i64 0) (by omega)).put_other 1 (.int .i64 0) (by omega)).put_other 2 (.int .i64 0) (by omega)).put_other 3 (.int .i64 0) (by omega)).put_other 4 (.int .u64 0) (by omega))
  have r2 : Blk ((((((((((w2.alloc (.cells #[.int .i64 0, .string ⟨#[]⟩, .slice none 0 0, .bool false] 163)).setCell ⟨w.heap.size + 1, 0, none⟩ (.int .i64 0)).setCell ⟨w.heap.size + 1, 1, none⟩ (.string ⟨#[]⟩)).setCell ⟨w.heap.size + 1, 2, none⟩ (.slice none 0 0)).setCell ⟨w.heap.size + 1, 3, none⟩ (.bool false)).setCell ⟨w.heap.size + 1 + 1, 0, none⟩ (.int .i64 0)).setCell ⟨w.heap.size + 1 + 1, 1, none⟩ (.int .i64 0)).setCell ⟨w.heap.size + 1 + 1, 2, none⟩ (.int .i64 0)).setCell ⟨w.heap.size + 1 + 1, 3, none⟩ (.int .i64 0)).setCell ⟨w.heap.size + 1 + 1, 4, none⟩ (.int .u64 0)) (w.heap.size + 1 + 1) 86 #[.int .i64 0, .int .i64 0, .int .i64 0, .int .i64 0, .int .u64 0] := (((((((((c2.put_other 0 (.int .i64 0) (by omega)).put_other 1 (.string ⟨#[]⟩) (by omega)).put_other 2 (.slice none 0 0) (by omega)).put_other 3 (.bool false) (by omega)).put 0 (.int .i64 0)).put 1 (.int .i64 0)).put 2 (.int .i64 0)).put 3 (.int .i64 0)).put 4 (.int .u64 0))
  have HR : Hid (Blk ((((((((((w2.alloc (.cells #[.int .i64 0, .string ⟨#[]⟩, .slice none 0 0, .bool false] 163)).setCell ⟨w.heap.size + 1, 0, none⟩ (.int .i64 0)).setCell ⟨w.heap.size + 1, 1, none⟩ (.string ⟨#[]⟩)).setCell ⟨w.heap.size + 1, 2, none⟩ (.slice none 0 0)).setCell ⟨w.heap.size + 1, 3, none⟩ (.bool false)).setCell ⟨w.heap.size + 1 + 1, 0, none⟩ (.int .i64 0)).setCell ⟨w.heap.size + 1 + 1, 1, none⟩ (.int .i64 0)).setCell ⟨w.heap.size + 1 + 1, 2, none⟩ (.int .i64 0)).setCell ⟨w.heap.size + 1 + 1, 3, none⟩ (.int .i64 0)).setCell ⟨w.heap.size + 1 + 1, 4, none⟩ (.int .u64 0)) (w.heap.size + 1) 163 #[.int .i64 0, .string ⟨#[]⟩, .slice none 0 0, .bool false] ∧ Blk ((((((((((w2.alloc (.cells #[.int .i64 0, .string ⟨#[]⟩, .slice none 0 0, .bool false] 163)).setCell ⟨w.heap.size + 1, 0, none⟩ (.int .i64 0)).setCell ⟨w.heap.size + 1, 1, none⟩ (.string ⟨#[]⟩)).setCell ⟨w.heap.size + 1, 2, none⟩ (.slice none 0 0)).setCell ⟨w.heap.size + 1, 3, none⟩ (.bool false)).setCell ⟨w.heap.size + 1 + 1, 0, none⟩ (.int .i64 0)).setCell ⟨w.heap.size + 1 + 1, 1, none⟩ (.int .i64 0)).setCell ⟨w.heap.size + 1 + 1, 2, none⟩ (.int .i64 0)).setCell ⟨w.heap.size + 1 + 1, 3, none⟩ (.int .i64 0)).setCell ⟨w.heap.size + 1 + 1, 4, none⟩ (.int .u64 0)) (w.heap.size + 1 + 1) 86 #[.int .i64 0, .int .i64 0, .int .i64 0, .int .i64 0, .int .u64 0]) := ⟨r1, r2⟩
  have d0 := (c1.cell 0).trans rfl
  have e0 := c1.frozen 0
  have d1 := (c1.cell 1).trans rfl
  have e1 := c1.frozen 1
  have d2 := (c1.cell 2).trans rfl
  have e2 := c1.frozen 2
  have d3 := (c1.cell 3).trans rfl
  have e3 := c1.frozen 3
  have p0 := (c2.cell 0).trans rfl
  have q0 := c2.frozen 0
  have p1 := (c2.cell 1).trans rfl
  have q1 := c2.frozen 1
  have p2 := (c2.cell 2).trans rfl
  have q2 := c2.frozen 2
  have p3 := (c2.cell 3).trans rfl
  have q3 := c2.frozen 3
  have p4 := (c2.cell 4).trans rfl
  have q4 := c2.frozen 4
  clear b0 b1 b2 hb hb2 HS hb12 c1 c2 hb3 r1 r2 k0 k1 k2
  go_wp2_with fail
  try simp only [Exit.inBlock, Exit.then]
  refine bodyPost_ret (res_cct Tryz.results93 _ _ (w.heap.size + 1) (w.heap.size + 1 + 1) 163 86 #[.int .i64 0, .string ⟨#[]⟩, .slice none 0 0, .bool false] #[.int .i64 0, .int .i64 0, .int .i64 0, .int .i64 0, .int .u64 0] _ _ rfl rfl HR.out.1 HR.out.2 Tryz.underlying163 rfl (size_sp.trans (by rfl)) Tryz.underlying86 rfl (size_nf.trans (by rfl))) rfl ?_
  exact ⟨rfl, HB.out⟩
set_option maxRecDepth 100000 in
set_option maxHeartbeats 4000000 in
theorem brremoveall_nil (s : ByteArray) (st : Int) (fv : Value) (hv : fv = .nilFunc ∨ ∃ f b c, fv = .func f b c) (w : World) : Calls Tryz.prog 44 #[.pointer none, .string s, .int .u64 st, fv] w fun e w' => e = .returned (.tuple #[.int .i64 0, .int .i64 1]) ∧ Below w.heap.size w w' := by
  have hf : fv.oneCell' = true := by rcases hv with rfl | ⟨f, b, c, rfl⟩ <;> rfl
  rcases hv with rfl | ⟨f0, b0x, c0x, rfl⟩
  · have hz := sp_zero
    have hz2 := n5_zero
    have hz3 := mv_zero
    have HT : Hid (∀ w : World, Calls Tryz.prog 93 #[.agg #[.pointer none, .int .u64 st, .nilFunc], .string s] w fun e w' => e = .returned (.tuple #[.agg #[.int .i64 0, .string ⟨#[]⟩, .slice none 0 0, .bool false], .agg #[.int .i64 0, .int .i64 0, .int .i64 0, .int .i64 0, .int .u64 0], .int .i64 1]) ∧ Below w.heap.size w w') := fun w => brtaken_nil s st .nilFunc hf w
    have b0 : Blk (w.alloc (.cells #[.pointer none, .int .u64 st, .nilFunc] 161)) w.heap.size 161 #[.pointer none, .int .u64 st, .nilFunc] := Blk.new _ _ _
    have hb : Below w.heap.size w (w.alloc (.cells #[.pointer none, .int .u64 st, .nilFunc] 161)) := below_new1 _ _
    have k0 := (b0.cell 0).trans rfl
    have k1 := (b0.cell 1).trans rfl
    have k2 := (b0.cell 2).trans rfl
    go_enter Tryz.func44, Tryz.ntmps44
    go_wp2_with fail
    generalize (w.alloc (.cells #[.pointer none, .int .u64 st, .nilFunc] 161)) = w1 at *
    refine (HT.out _).mono ?_
    rintro e w2 ⟨rfl, hb2⟩
    have hb12 := hb.trans (hb2.mono hb.size)
    have HB : Hid (Below w.heap.size w ((w2.alloc (.cells #[.int .i64 0, .string ⟨#[]⟩, .slice none 0 0, .bool false] 163)).alloc (.cells #[.int .i64 0, .int .i64 0, .int .i64 0, .int .i64 0, .int .u64 0] 86))) := hb12.trans ((below_new2 _ _ _).mono hb12.size)
    clear b0 hb hb2 HT hb12 k0 k1 k2
    go_wp2_with fail
    go_ret2
    exact ⟨rfl, HB.out⟩
  · have hz := sp_zero
    have hz2 := n5_zero
    have hz3 := mv_zero
    have HT : Hid (∀ w : World, Calls Tryz.prog 93 #[.agg #[.pointer none, .int .u64 st, (.func f0 b0x c0x)], .string s] w fun e w' => e = .returned (.tuple #[.agg #[.int .i64 0, .string ⟨#[]⟩, .slice none 0 0, .bool false], .agg #[.int .i64 0, .int .i64 0, .int .i64 0, .int .i64 0, .int .u64 0], .int .i64 1]) ∧ Below w.heap.size w w') := fun w => brtaken_nil s st (.func f0 b0x c0x) hf w
    have b0 : Blk (w.alloc (.cells #[.pointer none, .int .u64 st, (.func f0 b0x c0x)] 161)) w.heap.size 161 #[.pointer none, .int .u64 st, (.func f0 b0x c0x)] := Blk.new _ _ _
    have hb : Below w.heap.size w (w.alloc (.cells #[.pointer none, .int .u64 st, (.func f0 b0x c0x)] 161)) := below_new1 _ _
    have k0 := (b0.cell 0).trans rfl
    have k1 := (b0.cell 1).trans rfl
    have k2 := (b0.cell 2).trans rfl
    go_enter Tryz.func44, Tryz.ntmps44
    go_wp2_with fail
    generalize (w.alloc (.cells #[.pointer none, .int .u64 st, (.func f0 b0x c0x)] 161)) = w1 at *
    refine (HT.out _).mono ?_
    rintro e w2 ⟨rfl, hb2⟩
    have hb12 := hb.trans (hb2.mono hb.size)
    have HB : Hid (Below w.heap.size w ((w2.alloc (.cells #[.int .i64 0, .string ⟨#[]⟩, .slice none 0 0, .bool false] 163)).alloc (.cells #[.int .i64 0, .int .i64 0, .int .i64 0, .int .i64 0, .int .u64 0] 86))) := hb12.trans ((below_new2 _ _ _).mono hb12.size)
    clear b0 hb hb2 HT hb12 k0 k1 k2
    go_wp2_with fail
    go_ret2
    exact ⟨rfl, HB.out⟩
set_option maxRecDepth 100000 in
set_option maxHeartbeats 4000000 in
theorem brcopy_nil (o s : ByteArray) (st : Int) (w : World) : Calls Tryz.prog 43 #[.pointer none, .string o, .string s, .int .u64 st] w fun e w' => e = .returned (.tuple #[.int .i64 0, .int .i64 1]) ∧ Below w.heap.size w w' := by
  have hz2 := n5_zero
  have hz3 := mv_zero
  have HL : Hid (∀ w : World, Calls Tryz.prog 37 #[.pointer none, .string o] w fun e w' => e = .returned (.tuple #[.agg #[.int .i64 0, .int .i64 0, .int .i64 0, .int .i64 0, .int .u64 0], .int .i64 1]) ∧ Below w.heap.size w w') := fun w => brlookup_nil o w
  have hb : Below w.heap.size w (w.alloc (.cells #[.pointer none, .int .u64 st, .nilFunc] 161)) := below_new1 _ _
  go_enter Tryz.func43, Tryz.ntmps43
  go_wp2_with fail
  generalize (w.alloc (.cells #[.pointer none, .int .u64 st, .nilFunc] 161)) = w1 at *
  refine (HL.out _).mono ?_
  rintro e w2 ⟨rfl, hb2⟩
  have hb12 := hb.trans (hb2.mono hb.size)
  have HB : Hid (Below w.heap.size w (w2.alloc (.cells #[.int .i64 0, .int .i64 0, .int .i64 0, .int .i64 0, .int .u64 0] 86))) := hb12.alloc hb12.size _
  clear hb hb2 HL hb12
  go_wp2_with fail
  go_ret2
  exact ⟨rfl, HB.out⟩
set_option maxRecDepth 100000 in
set_option maxHeartbeats 4000000 in
theorem brsame_nil (o s : ByteArray) (w : World) : Calls Tryz.prog 45 #[.pointer none, .string o, .string s] w fun e w' => e = .returned (.tuple #[.bool false, .int .i64 1]) ∧ Below w.heap.size w w' := by
  have hz2 := n5_zero
  have HL : Hid (∀ w : World, Calls Tryz.prog 37 #[.pointer none, .string o] w fun e w' => e = .returned (.tuple #[.agg #[.int .i64 0, .int .i64 0, .int .i64 0, .int .i64 0, .int .u64 0], .int .i64 1]) ∧ Below w.heap.size w w') := fun w => brlookup_nil o w
  go_enter Tryz.func45, Tryz.ntmps45
  go_wp2_with fail
  refine (HL.out _).mono ?_
  rintro e w2 ⟨rfl, hb2⟩
  have HB : Hid (Below w.heap.size w (w2.alloc (.cells #[.int .i64 0, .int .i64 0, .int .i64 0, .int .i64 0, .int .u64 0] 86))) := hb2.alloc hb2.size _
  clear hb2 HL
  go_wp2_with fail
  go_ret2
  exact ⟨rfl, HB.out⟩
end Go.Proofs.YtojnlmfahgeidaaGreatDoor

namespace Go.Proofs.YtojnlmfahgeidaaGreatDoor
open Go Go.RowKit
set_option linter.unusedSimpArgs false
set_option linter.unusedVariables false
theorem dlk_at (N : Nat → Int) (S : Nat → ByteArray) : ∀ (n i : Nat), i < n → (lkL N S n)[i * 2]? = some (.int .i64 (N i)) ∧ (lkL N S n)[i * 2 + 1]? = some (.string (S i))
  | 0, i, h => absurd h (Nat.not_lt_zero _)
  | n + 1, i, h => by
    have hl := lkL_len N S n
    rw [lkL]
    by_cases e : i = n
    · subst e
      rw [List.getElem?_append_right (by omega), List.getElem?_append_right (by omega), hl]
      simp
    · rw [List.getElem?_append_left (by omega), List.getElem?_append_left (by omega)]
      exact dlk_at N S n i (by omega)
/-- an own slice of entries, told as a slice -/
theorem own_lks {w : World} {B t n : Nat} {v : Value} {N : Nat → Int} {S : Nat → ByteArray} (h : w.ownsRow B t 2 v n (lkL N S n)) : ∃ a c, v = .slice a n c ∧ IsLks w a n N S ∧ n ≤ c := by
  rcases h.2 with ⟨rfl, rfl⟩ | ⟨g, cap, cur, rfl, hg, hgg, h1, h2, h3, h4⟩
  · exact ⟨none, 0, rfl, fun h => absurd h (by omega), Nat.le_refl _⟩
  · refine ⟨some ⟨g, 0, none⟩, cap, rfl, fun _ => ⟨g, rfl, (Array.getElem?_eq_some_iff.1 hgg).1, fun i hi => ?_⟩, h1⟩
    rw [h.cellAt (i * 2) (by omega), h.cellAt (i * 2 + 1) (by omega)]
    exact dlk_at N S n i hi
theorem IsLks.below {w w' : World} {a : Option Addr} {n : Nat} {N : Nat → Int} {S : Nat → ByteArray} (h : IsLks w a n N S) (hb : Below w.heap.size w w') : IsLks w' a n N S := fun hn => by
  obtain ⟨g, h1, h2, h3⟩ := h hn
  have := hb.size
  exact ⟨g, h1, by omega, fun i hi => ⟨(hb.cell h2).trans (h3 i hi).1, (hb.cell h2).trans (h3 i hi).2⟩⟩
/-- what search hands to IndexFunc -/
theorem search1_any (i : Int) (s' s : ByteArray) (b : Nat) (w : World) (hb : w.cell? ⟨b, 0, none⟩ = some (.string s)) (hl : b < w.heap.size) : Calls Tryz.prog 117 #[.agg #[.int .i64 i, .string s'], .pointer (some ⟨b, 0, none⟩)] w fun e w' => e = .returned (.bool (s'.toList == s.toList)) ∧ Below w.heap.size w w' := by
  have hb1 : Below w.heap.size w (w.alloc (.cells #[.int .i64 i, .string s'] 36)) := below_new1 _ _
  have p1 : Blk (w.alloc (.cells #[.int .i64 i, .string s'] 36)) w.heap.size 36 #[.int .i64 i, .string s'] := Blk.new _ _ _
  have c1 : (w.alloc (.cells #[.int .i64 i, .string s'] 36)).cell? ⟨w.heap.size, 1, none⟩ = some (.string s') := (p1.cell 1).trans rfl
  have c2 : (w.alloc (.cells #[.int .i64 i, .string s'] 36)).cell? ⟨b, 0, none⟩ = some (.string s) := (hb1.cell hl).trans hb
  have HB : Hid (Below w.heap.size w (w.alloc (.cells #[.int .i64 i, .string s'] 36))) := hb1
  clear hb1 p1 hb
  go_enter Tryz.func117, Tryz.ntmps117
  go_wp2_with fail
  go_ret
  exact ⟨rfl, HB.out⟩
theorem eqT {a b : ByteArray} (h : a = b) : (a.toList == b.toList) = true := by subst h; exact beq_self_eq_true _
theorem toList_inj {a b : ByteArray} (h : a.toList = b.toList) : a = b := by
  have h1 : a.data.toList = b.data.toList := by
    rw [← Lib.toList_data a, ← Lib.toList_data b]; exact h
  have h2 : a.data = b.data := Array.toList_inj.1 h1
  cases a; cases b; simp at h2; rw [h2]
theorem neT {a b : ByteArray} (h : a ≠ b) : (a.toList == b.toList) = false := by
  rw [beq_eq_false_iff_ne]
  exact fun c => h (toList_inj c)
set_option maxRecDepth 100000 in
set_option maxHeartbeats 4000000 in
/-- IndexFunc: p is the first place with the name, or how many there are -/
theorem index_any (a : Option Addr) (n c b p : Nat) (hn : n ≤ 4) (N : Nat → Int) (S : Nat → ByteArray) (s : ByteArray) (hp : p ≤ n) (h1 : ∀ r, r < p → S r ≠ s) (h2 : p < n → S p = s) (w : World) (hI : IsLks w a n N S) (hb : w.cell? ⟨b, 0, none⟩ = some (.string s)) (hl : b < w.heap.size) (re : Int) (hre : re = if p < n then (p : Int) else -1) : Calls Tryz.prog 116 #[.slice a n c, .func (.func 117) #[] #[.pointer (some ⟨b, 0, none⟩)]] w fun e w' => e = .returned (.int .i64 re) ∧ Below w.heap.size w w' := by
  have HI : Hid (∀ p, p < n → ∃ g, a = some ⟨g, 0, none⟩ ∧ g < w.heap.size ∧ w.cell? ⟨g, p * 2, none⟩ = some (.int .i64 (N p)) ∧ w.cell? ⟨g, p * 2 + 1, none⟩ = some (.string (S p))) := fun p hp => by
    obtain ⟨g, h1, h2, h3⟩ := hI (by omega)
    exact ⟨g, h1, h2, (h3 p hp).1, (h3 p hp).2⟩
  have HC : Hid (∀ (i : Int) (s' : ByteArray) (V : World), Below w.heap.size w V → Calls Tryz.prog 117 #[.agg #[.int .i64 i, .string s'], .pointer (some ⟨b, 0, none⟩)] V fun e w' => e = .returned (.bool (s'.toList == s.toList)) ∧ Below V.heap.size V w') := fun i s' V hV => search1_any i s' s b V ((hV.cell hl).trans hb) (by have := hV.size; omega)
  have HP : Hid (p ≤ n ∧ (∀ r, r < p → S r ≠ s) ∧ (p < n → S p = s) ∧ re = if p < n then (p : Int) else -1) := ⟨hp, h1, h2, hre⟩
  clear hI hb hl h1 h2 hre hp
  go_enter Tryz.func116, Tryz.ntmps116
  go_wp2_with fail
  go_loopw [8] (fun v wr => Hid (∃ i : Nat, i ≤ p ∧ v = .int .i64 (i : Int) ∧ Below w.heap.size w wr)) (fun v _ => n - (intOf v).toNat)
  case atStart => exact ⟨0, Nat.zero_le _, rfl, Below.refl _ _⟩
  case round =>
    obtain ⟨i, hi, rfl, hbel⟩ := Hid.out hrel
    have HB : Hid (i ≤ p ∧ Below w.heap.size w wr) := ⟨hi, hbel⟩
    clear hrel
    by_cases hin : i < n
    · have i1 : (i : Int) < (n : Int) := by omega
      obtain ⟨g, rfl, hg, g0, g1⟩ := HI.out i hin
      have c0 : wr.cell? ⟨g, i * 2, none⟩ = some (.int .i64 (N i)) := (hbel.cell hg).trans g0
      have c1 : wr.cell? ⟨g, i * 2 + 1, none⟩ = some (.string (S i)) := (hbel.cell hg).trans g1
      have HCi := HC.out (N i) (S i) wr hbel
      clear g0 g1 hbel hi
      by_cases hip : i = p
      · have e1 : ((S i).toList == s.toList) = true := eqT (by rw [hip]; exact HP.out.2.2.1 (by omega))
        have HR : Hid (re = (i : Int)) := by show _ = _; rw [HP.out.2.2.2, if_pos (by omega), hip]
        rw [e1] at HCi
        clear hip e1
        go_wp2_with fail
        refine HCi.mono ?_
        rintro e w3 ⟨rfl, hb3⟩
        have HB3 : Hid (Below w.heap.size w w3) := HB.out.2.trans (hb3.mono HB.out.2.size)
        clear hb3 HCi c0 c1
        go_wp2_with fail
        go_ret
        exact ⟨by rw [HR.out]; rfl, HB3.out⟩
      · have e1 : ((S i).toList == s.toList) = false := neT (HP.out.2.1 i (by have := HB.out.1; omega))
        have HL : Hid (i + 1 ≤ p) := by show _ ≤ _; have := HB.out.1; omega
        rw [e1] at HCi
        clear hip e1
        go_wp2_with fail
        refine HCi.mono ?_
        rintro e w3 ⟨rfl, hb3⟩
        have HB3 : Hid (Below w.heap.size w w3) := HB.out.2.trans (hb3.mono HB.out.2.size)
        clear hb3 HCi c0 c1
        go_wp2_with fail
        go_roundw
        case rel => exact ⟨i + 1, HL.out, by first | rfl | go_num | simp, HB3.out⟩
        case measure => simp [intOf]; omega
    · have i1 : ¬ ((i : Int) < (n : Int)) := by omega
      have HR : Hid (re = -1) := by show _ = _; rw [HP.out.2.2.2, if_neg (by have := HB.out.1; omega)]
      clear hbel hi
      go_wp2_with fail
      go_ret
      exact ⟨by rw [HR.out]; rfl, HB.out.2⟩
end Go.Proofs.YtojnlmfahgeidaaGreatDoor

namespace Go.Proofs.YtojnlmfahgeidaaGreatDoor
open Go Go.RowKit
set_option linter.unusedSimpArgs false
set_option linter.unusedVariables false

def sumD (f : Nat → Nat) : Vector Nat 32 := Vector.ofFn fun i : Fin 32 => f i.1
theorem dF_sumD (f : Nat → Nat) (i : Nat) (hi : i < 32) : dF (sumD f) i = f i := by
  unfold dF sumD
  simp [hi]
theorem va_extract (n o m : Nat) (f : Nat → Value) (h : o + m ≤ n) : (va n f).extract o (o + m) = va m fun i => f (o + i) := by
  refine va_ext (by rw [Array.size_extract, va_size]; omega) fun i hi => ?_
  rw [Array.getElem?_extract, va_size]
  rw [if_pos (by omega)]
  exact va_at f (by omega)
def rfF (a : Nat) (d : Vector Nat 32) : Nat → Value := fun i => if i = 0 then .int .u32 ((a : Nat) : Int) else .int .u8 ((dF d (i - 1) : Nat) : Int)
theorem rf_sum (a : Nat) (d : Vector Nat 32) : (va 32 fun i => rfF a d (1 + i)) = va 32 (iv .u8 (dF d)) := va_congr fun i _ => by
  unfold rfF iv
  rw [if_neg (by omega), show 1 + i - 1 = i by omega]
theorem size_at (t n : Nat) (h : (Tryz.prog.info? t).map (·.size) = some n) (w : World) : (sizeOf t).run Tryz.prog w = .ok n w := by
  cases hq : Tryz.prog.info? t with
  | none => simp [hq] at h
  | some i =>
    have hi : i.size = n := by simpa [hq] using h
    simp [sizeOf, typeInfo, hq, hi]
theorem slSizeRef : (Tryz.prog.info? 120).map (·.size) = some 33 := by kernel_rfl
theorem sizeSm : (Tryz.prog.info? 118).map (·.size) = some 32 := by kernel_rfl
theorem part_sum (a : Nat) (d : Vector Nat 32) (w : World) : (part 118 (va 33 (rfF a d)) 1).run Tryz.prog w = .ok (dK d) w := by
  have e : (va 33 (rfF a d)).extract 1 (1 + 32) = va 32 (iv .u8 (dF d)) := by
    rw [va_extract 33 1 32 _ (by decide), rf_sum]
  simp [part, isAgg, run_underlying Tryz.underlying118, size_at _ _ sizeSm]
  unfold dK
  rw [← e]
theorem part_int (t : TypeId) (k : IntKind) (h : Tryz.prog.underlying t = some (.int k)) (cs : Array Value) (o : Nat) (v : Value) (hv : cs[o]? = some v) (w : World) : (part t cs o).run Tryz.prog w = .ok v w := by
  simp [part, isAgg, run_underlying h, hv]
set_option maxRecDepth 100000 in
theorem eq_digAt (d : Nat) (t : TypeId) (ht : Tryz.prog.underlying t = some (.array 32 5)) (a b : Vector Nat 32) (w : World) : (Op.equalIn (d + 1 + 1) t (dK a) (dK b)).run Tryz.prog w = .ok (decide (a = b)) w := by
  obtain ⟨i, hi⟩ : ∃ i, Tryz.prog.info? 5 = some i := Option.isSome_iff_exists.1 (by kernel_rfl)
  have hc : Tryz.prog.cellsOf 5 = 1 := by kernel_rfl
  unfold dK
  rw [run_equalIn_array w (d + 1) (va 32 (iv .u8 (dF a))) (va 32 (iv .u8 (dF b))) ht hi, hc,
    run_items d Tryz.underlying5 (fun i => ((dF a i : Nat) : Int)) (fun i => ((dF b i : Nat) : Int)) (va 32 (iv .u8 (dF a))) (va 32 (iv .u8 (dF b))) _ (fun i hi => ⟨va_at (iv .u8 (dF a)) (by simpa using hi), va_at (iv .u8 (dF b)) (by simpa using hi)⟩)]
  congr 1
  rw [Bool.eq_iff_iff, List.all_eq_true, decide_eq_true_eq]
  constructor
  · intro h
    refine dF_inj fun i hi => ?_
    have := h i (by simpa using hi)
    simp only [beq_iff_eq] at this
    omega
  · rintro rfl i _
    simp
/-- two structs of two fields compared -/
theorem run_eq_two {P : Program} {w : World} {d : Nat} {t t1 t2 o1 o2 : Nat} {cs ds : Array Value} {x1 y1 x2 y2 : Value} {b1 b2 : Bool} (hu : P.underlying t = some (.struct (P.fieldsOf t))) (hp : P.stoodInHeld t = false)
    (hf : (P.fieldsOf t).toList.map (fun f => (f.name == "_", f.type, f.offset)) = [(false, t1, o1), (false, t2, o2)])
    (p1 : (part t1 cs o1).run P w = .ok x1 w) (q1 : (part t1 ds o1).run P w = .ok y1 w) (p2 : (part t2 cs o2).run P w = .ok x2 w) (q2 : (part t2 ds o2).run P w = .ok y2 w)
    (h1 : (Op.equalIn d t1 x1 y1).run P w = .ok b1 w) (h2 : (Op.equalIn d t2 x2 y2).run P w = .ok b2 w) : (Op.equalIn (d + 1) t (.agg cs) (.agg ds)).run P w = .ok (b1 && b2) w := by
  rw [run_equalIn_struct w d t cs ds hu hp]
  obtain ⟨f, l1, e1, hf1, hl1⟩ := List.map_eq_cons_iff.1 hf
  obtain ⟨g, l2, e2, hg1, hl2⟩ := List.map_eq_cons_iff.1 hl1
  have e3 := List.map_eq_nil_iff.1 hl2
  subst e3 e2
  rw [e1]
  simp only [Prod.mk.injEq] at hf1 hg1
  obtain ⟨n1, rfl, rfl⟩ := hf1
  obtain ⟨n2, rfl, rfl⟩ := hg1
  have n1' : f.name ≠ "_" := by simpa using n1
  have n2' : g.name ≠ "_" := by simpa using n2
  unfold Op.eqFields
  rw [if_pos n1']
  unfold Op.eqFields
  rw [if_pos n2']
  simp only [Sem.run_bind, p1, q1, Result.andThen_ok, h1]
  cases b1
  · simp
  · simp only [Bool.not_true, Bool.false_eq_true, if_false, Sem.run_bind, p2, q2, Result.andThen_ok, h2]
    cases b2
    · simp
    · simp [Op.eqFields]
theorem eq_root (d : Nat) (a b : Nat) (x y : Vector Nat 32) (w : World) : (Op.equalIn (d + 1 + 1 + 1) 120 (.agg (va 33 (rfF a x))) (.agg (va 33 (rfF b y)))).run Tryz.prog w = .ok (decide ((a, x) = (b, y))) w := by
  have h1 : (Op.equalIn (d + 1 + 1) 116 (.int .u32 (a : Int)) (.int .u32 (b : Int))).run Tryz.prog w = .ok ((a : Int) == (b : Int)) w := by simp [Op.equalIn, run_underlying Tryz.underlying116]
  have h2 := eq_digAt d 118 Tryz.underlying118 x y w
  have hd : decide ((a, x) = (b, y)) = (((a : Int) == (b : Int)) && decide (x = y)) := by
    rw [Bool.eq_iff_iff]
    simp only [decide_eq_true_eq, Bool.and_eq_true, beq_iff_eq, Prod.mk.injEq]
    constructor
    · rintro ⟨h, k⟩
      exact ⟨by omega, k⟩
    · rintro ⟨h, k⟩
      exact ⟨by omega, k⟩
  rw [hd]
  have p1 : (part 116 (va 33 (rfF a x)) 0).run Tryz.prog w = .ok (.int .u32 ((a : Nat) : Int)) w := part_int _ _ Tryz.underlying116 _ _ _ (va_at (rfF a x) (by decide)) w
  have q1 : (part 116 (va 33 (rfF b y)) 0).run Tryz.prog w = .ok (.int .u32 ((b : Nat) : Int)) w := part_int _ _ Tryz.underlying116 _ _ _ (va_at (rfF b y) (by decide)) w
  have p2 := part_sum a x w
  have q2 := part_sum b y w
  generalize va 33 (rfF a x) = cs at *
  generalize va 33 (rfF b y) = ds at *
  have hu : Tryz.prog.underlying 120 = some (.struct (Tryz.prog.fieldsOf 120)) := by kernel_rfl
  have hp : Tryz.prog.stoodInHeld 120 = false := by kernel_rfl
  have hf : (Tryz.prog.fieldsOf 120).toList.map (fun f => (f.name == "_", f.type, f.offset)) = [(false, 116, 0), (false, 118, 1)] := by kernel_rfl
  exact run_eq_two hu hp hf p1 q1 p2 q2 h1 h2
end Go.Proofs.YtojnlmfahgeidaaGreatDoor

namespace Go.Proofs.YtojnlmfahgeidaaGreatDoor
open Go Go.RowKit
set_option linter.unusedSimpArgs false
set_option linter.unusedVariables false

theorem tbyte_get (s : ByteArray) (i : Nat) (h : i < s.size) : tbyte s i = s[i].toNat := by
  have h' : i < s.data.size := h
  simp [tbyte, List.getD]
  rw [Array.getElem?_eq_getElem h']; rfl
def at4 (s : ByteArray) (a : Nat) : Nat := le4 (tbyte s a) (tbyte s (a + 1)) (tbyte s (a + 2)) (tbyte s (a + 3))
set_option maxHeartbeats 400000 in
theorem there_yes (s : ByteArray) (a k : Nat) (hs : s.size ≤ maxLen) (hk : k ≤ 8) (h : a + k ≤ s.size) (w : World) :
    Calls Tryz.prog 259 #[.string s, .int .i64 (a : Int), .int .i64 (k : Int)] w fun e w' => e = .returned (.bool true) ∧ w' = w := by
  unfold maxLen at hs
  have e1 : decide ((a : Int) ≤ (s.size : Int) - (k : Int)) = true := by simp; omega
  go_enter Tryz.func259, Tryz.ntmps259
  go_wp2
  go_ret
  exact ⟨by simp, rfl⟩
set_option maxHeartbeats 1000000 in
theorem take32_yes (s : ByteArray) (a : Nat) (hs : s.size ≤ maxLen) (h : a + 4 ≤ s.size) (w : World) :
    Calls Tryz.prog 239 #[.string s, .int .i64 (a : Int)] w fun e w' => e = .returned (.tuple #[.int .u32 (at4 s a : Int), .bool true]) ∧ Below w.heap.size w w' := by
  have hs' := hs
  unfold maxLen at hs
  have HE : Hid (at4 s a = le4 s[a].toNat s[a + 1].toNat s[a + 2].toNat s[a + 3].toNat) := by
    show at4 s a = le4 s[a].toNat s[a + 1].toNat s[a + 2].toNat s[a + 3].toNat
    unfold at4; rw [tbyte_get s a (by omega), tbyte_get s (a + 1) (by omega), tbyte_get s (a + 2) (by omega), tbyte_get s (a + 3) (by omega)]
  go_enter Tryz.func239, Tryz.ntmps239
  go_wp2_with fail
  refine (there_yes s a 4 hs' (by decide) h _).mono ?_
  rintro e w' ⟨rfl, rfl⟩
  go_wp2
  refine wp_loop_rounds 5 ?_
  rw [rounds_succ]
  go_wp2
  rw [rounds_succ]
  go_wp2
  rw [rounds_succ]
  go_wp2
  rw [rounds_succ]
  go_wp2
  rw [rounds_succ]
  go_wp2_with fail
  refine (of32_any _ _ _ _ (UInt8.toNat_lt _) (UInt8.toNat_lt _) (UInt8.toNat_lt _) (UInt8.toNat_lt _) _).mono ?_
  rintro e w1 ⟨rfl, hb⟩
  go_wp2
  go_ret2
  rw [HE.out]
  refine ⟨rfl, ?_⟩
  exact ((Below.refl _ _).alloc (Nat.le_refl _) _).trans (hb.mono (by simp))
end Go.Proofs.YtojnlmfahgeidaaGreatDoor
