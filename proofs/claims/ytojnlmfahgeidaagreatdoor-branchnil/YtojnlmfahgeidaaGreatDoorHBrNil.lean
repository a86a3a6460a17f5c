/- Branches: all calls on nil inodes. -/
import Derived.Test.YtojnlmfahgeidaaGreatDoorHBlkGroups
import Derived.Deep.MidRow
import Derived.Handy
import Derived.Test.YtojnlmfahgeidaaGreatDoorHMathDigest

namespace Go.Proofs.YtojnlmfahgeidaaGreatDoor
open Go Go.RowKit
set_option linter.unusedSimpArgs false
set_option linter.unusedVariables false

/-- a raw step and a block, as a key -/
def momK (a : Int × Int) : Value := .agg #[.int .i64 a.1, .int .i64 a.2]
/-- what a disk has in the memory -/
structure QD where
  gn : Nat
  r : Nat
  sv : Value
  pl : Value
  cu : Value
  dd : Bool
  ev : Int
  lv : Value
  wv : Value
  l : List ((Int × Int) × Vector Nat 256)
  G : List (List Nat)
  ss : List Value
  xs : List Value
  ys : List Value
def dcells (q : QD) (N k : Nat) : Array Value := #[.slice (some ⟨q.gn, 0, none⟩) N N, .map (some q.r), q.sv, q.pl, q.cu, .bool q.dd, .int .i64 (k : Int), .int .i64 q.ev, q.lv, q.wv]
/-- a disk of N blocks in block g: the bytes F, k raw steps, lg entries of the log -/
structure DiskQ (w : World) (B g N : Nat) (F : Nat → Nat) (k lg : Nat) (q : QD) : Prop where
  gB : B ≤ g
  cells : Blk w g 198 (dcells q N k)
  nB : B ≤ q.gn
  now : Blk w q.gn 237 (va (N * 256) (iv .u8 F))
  rB : B ≤ q.r
  map : MapIs momK bK w q.r q.l
  keys : ∀ p ∈ q.l, p.1.1 ≤ (k : Int)
  steps : GrpAt w B q.sv q.G q.ss
  many : q.G.length = N
  short : ∀ j, (q.G.getD j []).length ≤ k + 1
  log : w.ownsRow B 414 258 q.lv lg q.xs
  wear : w.ownsRow B 3 1 q.wv N q.ys
  ints : ∀ j, j < N → ∃ x : Int, q.ys[j]? = some (.int .i64 x)
  apart : ∀ j, j < N → ∀ b, (q.ss.getD j undef).ownBlock = some b → q.wv.ownBlock ≠ some b
/-- its blocks in the memory -/
def foot (g N : Nat) (q : QD) (b : Nat) : Prop := b = g ∨ b = q.gn ∨ b = q.r ∨ q.sv.ownBlock = some b ∨ q.lv.ownBlock = some b ∨ q.wv.ownBlock = some b ∨ ∃ j, j < N ∧ (q.ss.getD j undef).ownBlock = some b
/-- only blocks of S turn -/
structure Turns (S : Nat → Prop) (w w' : World) : Prop where
  os : w'.os = w.os
  tape : w'.tape = w.tape
  output : w'.output = w.output
  size : w.heap.size ≤ w'.heap.size
  block : ∀ b, b < w.heap.size → ¬ S b → w'.heap[b]? = w.heap[b]?
theorem Turns.of_below {S : Nat → Prop} {w w' : World} (h : Below w.heap.size w w') : Turns S w w' := ⟨h.os, h.tape, h.output, h.size, fun b hb _ => h.block b hb⟩
theorem Turns.below {S : Nat → Prop} {w w' : World} {B : Nat} (h : Turns S w w') (hB : B ≤ w.heap.size) (hS : ∀ b, S b → B ≤ b) : Below B w w' := ⟨h.os, h.tape, h.output, h.size, fun b hb => h.block b (by omega) fun q => by have := hS b q; omega⟩
theorem Turns.trans {S T : Nat → Prop} {w v u : World} (h : Turns S w v) (k : Turns T v u) (hT : ∀ b, T b → S b ∨ w.heap.size ≤ b) : Turns S w u :=
  ⟨k.os.trans h.os, k.tape.trans h.tape, k.output.trans h.output, Nat.le_trans h.size k.size, fun b hb hS => (k.block b (Nat.lt_of_lt_of_le hb h.size) fun q => by rcases hT b q with z | z; exact hS z; omega).trans (h.block b hb hS)⟩
theorem Turns.mono {S T : Nat → Prop} {w v : World} (h : Turns S w v) (hT : ∀ b, S b → T b) : Turns T w v := ⟨h.os, h.tape, h.output, h.size, fun b hb hS => h.block b hb fun q => hS (hT b q)⟩
theorem Turns.drew {S : Nat → Prop} {w v : World} (h : Turns S w v) : Turns S w v.drew := ⟨h.os, h.tape, h.output, h.size, h.block⟩
/-- a disk goes from q to q' -/
def Moved (g N : Nat) (q q' : QD) (w w' : World) : Prop := Turns (foot g N q) w w' ∧ ∀ b, foot g N q' b → foot g N q b ∨ w.heap.size ≤ b
theorem Moved.of_below {g N : Nat} {q : QD} {w w' : World} (h : Below w.heap.size w w') : Moved g N q q w w' := ⟨.of_below h, fun _ => .inl⟩
theorem Moved.trans {g N : Nat} {p q r : QD} {w v u : World} (h : Moved g N p q w v) (k : Moved g N q r v u) : Moved g N p r w u :=
  ⟨h.1.trans k.1 h.2, fun b hb => by
    rcases k.2 b hb with z | z
    · exact h.2 b z
    · exact .inr (Nat.le_trans h.1.size z)⟩
section
variable {w w' : World} {B g N k lg : Nat} {F : Nat → Nat} {q : QD}
theorem DiskQ.foots (h : DiskQ w B g N F k lg q) : ∀ b, foot g N q b → B ≤ b ∧ b < w.heap.size := by
  intro b hb
  have hm := h.many
  rcases hb with rfl | rfl | rfl | z | z | z | ⟨j, hj, z⟩
  · exact ⟨h.gB, h.cells.lt⟩
  · exact ⟨h.nB, h.now.lt⟩
  · obtain ⟨es, cl, hg, _⟩ := h.map
    exact ⟨h.rB, (Array.getElem?_eq_some_iff.1 hg).1⟩
  · exact h.steps.row.lt b z
  · exact h.log.lt b z
  · exact h.wear.lt b z
  · exact (h.steps.each j (by omega)).lt b z
theorem DiskQ.kept (h : DiskQ w B g N F k lg q) (hk : ∀ b, foot g N q b → w'.heap[b]? = w.heap[b]?) : DiskQ w' B g N F k lg q := by
  have hm := h.many
  refine ⟨h.gB, (hk g (.inl rfl)).trans h.cells, h.nB, (hk _ (.inr (.inl rfl))).trans h.now, h.rB, ?_, h.keys, ⟨own_block h.steps.row fun b hb => hk b (.inr (.inr (.inr (.inl hb)))), fun j hj => own_block (h.steps.each j hj) fun b hb => hk b (.inr (.inr (.inr (.inr (.inr (.inr ⟨j, by omega, hb⟩)))))), h.steps.apart⟩, h.many, h.short, own_block h.log fun b hb => hk b (.inr (.inr (.inr (.inr (.inl hb))))), own_block h.wear fun b hb => hk b (.inr (.inr (.inr (.inr (.inr (.inl hb)))))), h.ints, h.apart⟩
  obtain ⟨es, cl, hg, he⟩ := h.map
  exact ⟨es, cl, (hk _ (.inr (.inr (.inl rfl)))).trans hg, he⟩
theorem DiskQ.below (h : DiskQ w B g N F k lg q) (hb : Below w.heap.size w w') : DiskQ w' B g N F k lg q := h.kept fun b hf => hb.block b (h.foots b hf).2
theorem blk_ne {a b s t : Nat} {cs ds : Array Value} (h : Blk w a s cs) (k : Blk w b t ds) (hne : s ≠ t) : a ≠ b := fun e => by
  subst e
  unfold Blk at h k
  rw [h] at k
  simp at k
  exact hne k.2
/-- what is in block g turns: counts -/
theorem DiskQ.put (h : DiskQ w B g N F k lg q) {k' : Nat} (hk : k ≤ k') (ev : Int) (hB : Blk w' g 198 (dcells { q with ev := ev } N k')) (hs : ∀ b, b ≠ g → w'.heap[b]? = w.heap[b]?) : DiskQ w' B g N F k' lg { q with ev := ev } := by
  have hm := h.many
  refine ⟨h.gB, hB, h.nB, (hs _ (blk_ne h.now h.cells (by decide))).trans h.now, h.rB, ?_, fun p hp => by have := h.keys p hp; omega, ⟨own_block h.steps.row fun b hb => hs b fun e => own_ne h.steps.row h.cells (by decide) (e ▸ hb), fun j hj => own_block (h.steps.each j hj) fun b hb => hs b fun e => own_ne (h.steps.each j hj) h.cells (by decide) (e ▸ hb), h.steps.apart⟩, h.many, fun j => Nat.le_trans (h.short j) (Nat.succ_le_succ hk), own_block h.log fun b hb => hs b fun e => own_ne h.log h.cells (by decide) (e ▸ hb), own_block h.wear fun b hb => hs b fun e => own_ne h.wear h.cells (by decide) (e ▸ hb), h.ints, h.apart⟩
  obtain ⟨es, cl, hg, he⟩ := h.map
  exact ⟨es, cl, (hs _ (map_blk hg h.cells)).trans hg, he⟩
/-- the blocks' bytes turn -/
theorem DiskQ.renow (h : DiskQ w B g N F k lg q) {F' : Nat → Nat} (hn : Blk w' q.gn 237 (va (N * 256) (iv .u8 F'))) (hs : ∀ b, b ≠ q.gn → w'.heap[b]? = w.heap[b]?) : DiskQ w' B g N F' k lg q := by
  have hm := h.many
  obtain ⟨es, cl, hg, he⟩ := h.map
  refine ⟨h.gB, (hs _ (blk_ne h.cells h.now (by decide))).trans h.cells, h.nB, hn, h.rB, ⟨es, cl, (hs _ (map_blk hg h.now)).trans hg, he⟩, h.keys, ⟨own_block h.steps.row fun b hb => hs b fun e => own_ne h.steps.row h.now (by decide) (e ▸ hb), fun j hj => own_block (h.steps.each j hj) fun b hb => hs b fun e => own_ne (h.steps.each j hj) h.now (by decide) (e ▸ hb), h.steps.apart⟩, h.many, h.short, own_block h.log fun b hb => hs b fun e => own_ne h.log h.now (by decide) (e ▸ hb), own_block h.wear fun b hb => hs b fun e => own_ne h.wear h.now (by decide) (e ▸ hb), h.ints, h.apart⟩
end
end Go.Proofs.YtojnlmfahgeidaaGreatDoor

namespace Go.Proofs.YtojnlmfahgeidaaGreatDoor
open Go Go.RowKit
set_option linter.unusedSimpArgs false
set_option linter.unusedVariables false
theorem st_nil (P : Program) (w : World) (a : Addr) (m : Mode) : (store a .nilFunc m).run P w = stored P w a .nilFunc m := run_store P w a _ m rfl
theorem st_fun (P : Program) (w : World) (a : Addr) (m : Mode) (f : Fn) (b c : Array Value) : (store a (.func f b c) m).run P w = stored P w a (.func f b c) m := run_store P w a _ m rfl
attribute [local go_sem] st_nil st_fun
theorem pt_zero (w : World) : (zeroValue 94).run Tryz.prog w = .ok (.agg #[.slice none 0 0, .bool false]) w := di_zero (by kernel_rfl) w
theorem sp_zero (w : World) : (zeroValue 163).run Tryz.prog w = .ok (.agg #[.int .i64 0, .string ⟨#[]⟩, .slice none 0 0, .bool false]) w := di_zero (by kernel_rfl) w
theorem mv_zero (w : World) : (zeroValue 161).run Tryz.prog w = .ok (.agg #[.pointer none, .int .u64 0, .nilFunc]) w := di_zero (by kernel_rfl) w
theorem n5_zero (w : World) : (zeroValue 86).run Tryz.prog w = .ok (.agg #[.int .i64 0, .int .i64 0, .int .i64 0, .int .i64 0, .int .u64 0]) w := di_zero (by kernel_rfl) w
theorem size_pt : (Tryz.prog.info? 94).map (·.size) = some 2 := by kernel_rfl
theorem size_sp : (Tryz.prog.info? 163).map (·.size) = some 4 := by kernel_rfl
theorem size_mv : (Tryz.prog.info? 161).map (·.size) = some 3 := by kernel_rfl
theorem res_ttct {P : Program} {fn : Func} {p q r u : Tmp} {ty : TypeId} (h : fn.results = #[.tmp p, .tmp q, .cell r ty, .tmp u]) (tmps : Array Value) (w : World) (g : Nat) (t : TypeId) (cs : Array Value) (d : TypeDesc)
    (hr : tmps.getD r undef = .pointer (some ⟨g, 0, none⟩)) (hg : Blk w g t cs)
    (hu : P.underlying ty = some d) (hd : (match d with | .struct _ | .array _ _ => true | _ => false) = true) (hi : (P.info? ty).map (·.size) = some cs.size) :
    (results fn tmps).run P w = .ok (.tuple #[tmps.getD p undef, tmps.getD q undef, .agg cs, tmps.getD u undef]) w := by
  have hr' : tmps[r]?.getD undef = .pointer (some ⟨g, 0, none⟩) := by simpa using hr
  simp [results, h, hr', asAddr, run_loadVar_row w g t ty cs (0, 0) d hg hu hd hi]
theorem res_cct {P : Program} {fn : Func} {p q u : Tmp} {ty ty' : TypeId} (h : fn.results = #[.cell p ty, .cell q ty', .tmp u]) (tmps : Array Value) (w : World) (g g' : Nat) (t t' : TypeId) (cs cs' : Array Value) (d d' : TypeDesc)
    (hp : tmps.getD p undef = .pointer (some ⟨g, 0, none⟩)) (hq : tmps.getD q undef = .pointer (some ⟨g', 0, none⟩)) (hg : Blk w g t cs) (hg' : Blk w g' t' cs')
    (hu : P.underlying ty = some d) (hd : (match d with | .struct _ | .array _ _ => true | _ => false) = true) (hi : (P.info? ty).map (·.size) = some cs.size)
    (hu' : P.underlying ty' = some d') (hd' : (match d' with | .struct _ | .array _ _ => true | _ => false) = true) (hi' : (P.info? ty').map (·.size) = some cs'.size) :
    (results fn tmps).run P w = .ok (.tuple #[.agg cs, .agg cs', tmps.getD u undef]) w := by
  have hp' : tmps[p]?.getD undef = .pointer (some ⟨g, 0, none⟩) := by simpa using hp
  have hq' : tmps[q]?.getD undef = .pointer (some ⟨g', 0, none⟩) := by simpa using hq
  simp [results, h, hp', hq', asAddr, run_loadVar_row w g t ty cs (0, 0) d hg hu hd hi, run_loadVar_row w g' t' ty' cs' (0, 0) d' hg' hu' hd' hi']
set_option maxRecDepth 100000 in
set_option maxHeartbeats 4000000 in
theorem brparent_nil (s : ByteArray) (w : World) : Calls Tryz.prog 39 #[.pointer none, .string s] w fun e w' => e = .returned (.tuple #[.int .i64 0, .string ⟨#[]⟩, .agg #[.slice none 0 0, .bool false], .int .i64 1]) ∧ Below w.heap.size w w' := by
  have hz := pt_zero
  have b1 : Blk (w.alloc (.cells #[.slice none 0 0, .bool false] 94)) w.heap.size 94 #[.slice none 0 0, .bool false] := Blk.new _ _ _
  have HB : Hid (Below w.heap.size w (w.alloc (.cells #[.slice none 0 0, .bool false] 94))) := below_new1 _ _
  go_enter Tryz.func39, Tryz.ntmps39
  go_wp2_with fail
  try simp only [Exit.inBlock, Exit.then]
  refine bodyPost_ret (res_ttct Tryz.results39 _ _ w.heap.size 94 #[.slice none 0 0, .bool false] _ rfl b1 Tryz.underlying94 rfl (size_pt.trans rfl)) rfl ?_
  exact ⟨rfl, HB.out⟩
set_option maxRecDepth 100000 in
set_option maxHeartbeats 4000000 in
theorem brlookup_nil (s : ByteArray) (w : World) : Calls Tryz.prog 37 #[.pointer none, .string s] w fun e w' => e = .returned (.tuple #[.agg #[.int .i64 0, .int .i64 0, .int .i64 0, .int .i64 0, .int .u64 0], .int .i64 1]) ∧ Below w.heap.size w w' := by
  have hz := zero_nf
  have b1 : Blk (w.alloc (.cells nf0 86)) w.heap.size 86 nf0 := Blk.new _ _ _
  have r1 := b1.set nf0
  have HB : Hid (Below w.heap.size w ((w.alloc (.cells nf0 86)).setRow w.heap.size nf0)) := below_setRow (below_new1 _ _) (Nat.le_refl _) _
  have hbt := built_nf0
  go_enter Tryz.func37, Tryz.ntmps37
  go_wp2_with (first
    | (refine wpList_buildTo (by rfl) 86 #[] (by rfl) _ rfl nf0 (by exact hbt) ?_; simp only [Act.put, List.setIfInBounds_toArray, List.set_cons_zero, List.set_cons_succ])
    | (refine wpList_store_row (by rfl) 86 _ _ (by rfl) (w.heap.size) nf0 (by rfl) (by rfl) 86 (nf0) (by exact b1) (size_nf.trans (by rfl)) (by rfl) (nf_all _ _ _ _ _) ?_; simp only [Act.put, List.setIfInBounds_toArray, List.set_cons_zero, List.set_cons_succ])
    | fail)
  try simp only [Exit.inBlock, Exit.then]
  refine bodyPost_ret (results_row2 Tryz.results37 _ _ w.heap.size 86 nf0 (0, 0) _ rfl r1 Tryz.underlying86 rfl (size_nf.trans (by rfl))) rfl ?_
  exact ⟨rfl, HB.out⟩
set_option maxRecDepth 100000 in
set_option maxHeartbeats 4000000 in
theorem brspot_nil (s : ByteArray) (st : Int) (fv : Value) (hf : fv.oneCell' = true) (w : World) : Calls Tryz.prog 86 #[.agg #[.pointer none, .int .u64 st, fv], .string s] w fun e w' => e = .returned (.tuple #[.agg #[.int .i64 0, .string ⟨#[]⟩, .slice none 0 0, .bool false], .int .i64 1]) ∧ Below w.heap.size w w' := by
  have hz := sp_zero
  have hz2 := pt_zero
  have HP : Hid (∀ w : World, Calls Tryz.prog 39 #[.pointer none, .string s] w fun e w' => e = .returned (.tuple #[.int .i64 0, .string ⟨#[]⟩, .agg #[.slice none 0 0, .bool false], .int .i64 1]) ∧ Below w.heap.size w w') := brparent_nil s
  have b0 : Blk ((w.alloc (.cells #[.pointer none, .int .u64 st, fv] 161)).alloc (.cells #[.int .i64 0, .string ⟨#[]⟩, .slice none 0 0, .bool false] 163)) w.heap.size 161 #[.pointer none, .int .u64 st, fv] := Blk.alloc (Blk.new _ _ _) _
  have b1 : Blk ((w.alloc (.cells #[.pointer none, .int .u64 st, fv] 161)).alloc (.cells #[.int .i64 0, .string ⟨#[]⟩, .slice none 0 0, .bool false] 163)) (w.heap.size + 1) 163 #[.int .i64 0, .string ⟨#[]⟩, .slice none 0 0, .bool false] := Blk.new1 _ _ _ _
  have hb : Below w.heap.size w ((w.alloc (.cells #[.pointer none, .int .u64 st, fv] 161)).alloc (.cells #[.int .i64 0, .string ⟨#[]⟩, .slice none 0 0, .bool false] 163)) := below_new2 _ _ _
  have c0' := (b0.cell 0).trans rfl
  go_enter Tryz.func86, Tryz.ntmps86
  go_wp2_with fail
  generalize ((w.alloc (.cells #[.pointer none, .int .u64 st, fv] 161)).alloc (.cells #[.int .i64 0, .string ⟨#[]⟩, .slice none 0 0, .bool false] 163)) = w1 at *
  refine (HP.out _).mono ?_
  rintro e w2 ⟨rfl, hb2⟩
  have b2 := b1.below hb2 b1.lt
  have hb12 := hb.trans (hb2.mono hb.size)
  have b3 : Blk (w2.alloc (.cells #[.slice none 0 0, .bool false] 94)) (w.heap.size + 1) 163 #[.int .i64 0, .string ⟨#[]⟩, .slice none 0 0, .bool false] := b2.alloc _
  have r3 := (((b3.put 0 (.int .i64 0)).put 1 (.string ⟨#[]⟩)).put 2 (.slice none 0 0)).put 3 (.bool false)
  have HB : Hid (Below w.heap.size w (((((w2.alloc (.cells #[.slice none 0 0, .bool false] 94)).setCell ⟨w.heap.size + 1, 0, none⟩ (.int .i64 0)).setCell ⟨w.heap.size + 1, 1, none⟩ (.string ⟨#[]⟩)).setCell ⟨w.heap.size + 1, 2, none⟩ (.slice none 0 0)).setCell ⟨w.heap.size + 1, 3, none⟩ (.bool false))) := ((((hb12.alloc hb12.size _).setCell (p := ⟨w.heap.size + 1, 0, none⟩) (by show w.heap.size ≤ w.heap.size + 1; omega) _).setCell (p := ⟨w.heap.size + 1, 1, none⟩) (by show w.heap.size ≤ w.heap.size + 1; omega) _).setCell (p := ⟨w.heap.size + 1, 2, none⟩) (by show w.heap.size ≤ w.heap.size + 1; omega) _).setCell (p := ⟨w.heap.size + 1, 3, none⟩) (by show w.heap.size ≤ w.heap.size + 1; omega) _
  have c0 := (b3.cell 0).trans rfl
  have c1 := (b3.cell 1).trans rfl
  have c2 := (b3.cell 2).trans rfl
  have c3 := (b3.cell 3).trans rfl
  have f0 := b3.frozen 0
  have f1 := b3.frozen 1
  have f2 := b3.frozen 2
  have f3 := b3.frozen 3
  clear b0 b1 hb hb2 HP b2
  go_wp2_with fail
  try simp only [Exit.inBlock, Exit.then]
  refine bodyPost_ret (results_row2 Tryz.results86 _ _ (w.heap.size + 1) 163 #[.int .i64 0, .string ⟨#[]⟩, .slice none 0 0, .bool false] (0, 0) _ rfl r3 Tryz.underlying163 rfl (size_sp.trans (by rfl))) rfl ?_
  exact ⟨rfl, HB.out⟩
set_option maxRecDepth 100000 in
set_option maxHeartbeats 4000000 in
theorem brmake_nil (s : ByteArray) (k st : Int) (fv : Value) (hf : fv.oneCell' = true) (w : World) : Calls Tryz.prog 131 #[.agg #[.pointer none, .int .u64 st, fv], .string s, .int .i64 k] w fun e w' => e = .returned (.tuple #[.int .i64 0, .int .i64 1]) ∧ Below w.heap.size w w' := by
  have hz := sp_zero
  have HS : Hid (∀ w : World, Calls Tryz.prog 86 #[.agg #[.pointer none, .int .u64 st, fv], .string s] w fun e w' => e = .returned (.tuple #[.agg #[.int .i64 0, .string ⟨#[]⟩, .slice none 0 0, .bool false], .int .i64 1]) ∧ Below w.heap.size w w') := fun w => brspot_nil s st fv hf w
  have b0 : Blk ((w.alloc (.cells #[.pointer none, .int .u64 st, fv] 161)).alloc (.cells #[.int .i64 k] 3)) w.heap.size 161 #[.pointer none, .int .u64 st, fv] := Blk.alloc (Blk.new _ _ _) _
  have hb : Below w.heap.size w ((w.alloc (.cells #[.pointer none, .int .u64 st, fv] 161)).alloc (.cells #[.int .i64 k] 3)) := below_new2 _ _ _
  go_enter Tryz.func131, Tryz.ntmps131
  go_wp2_with (first | (refine wpList_load_row (by rfl) 161 _ (by rfl) (w.heap.size) (by rfl) 161 #[.pointer none, .int .u64 st, fv] (0, 0) _ (by exact b0) Tryz.underlying161 (by rfl) (size_mv.trans (by rfl)) ?_; simp only [Act.put, List.setIfInBounds_toArray, List.set_cons_zero, List.set_cons_succ]) | fail)
  generalize ((w.alloc (.cells #[.pointer none, .int .u64 st, fv] 161)).alloc (.cells #[.int .i64 k] 3)) = w1 at *
  refine (HS.out _).mono ?_
  rintro e w2 ⟨rfl, hb2⟩
  have hb12 := hb.trans (hb2.mono hb.size)
  have b3 : Blk (w2.alloc (.cells #[.int .i64 0, .string ⟨#[]⟩, .slice none 0 0, .bool false] 163)) w2.heap.size 163 #[.int .i64 0, .string ⟨#[]⟩, .slice none 0 0, .bool false] := Blk.new _ _ _
  have HB : Hid (Below w.heap.size w (w2.alloc (.cells #[.int .i64 0, .string ⟨#[]⟩, .slice none 0 0, .bool false] 163))) := hb12.alloc hb12.size _
  have HB2 : Hid (Below w.heap.size w ((w2.alloc (.cells #[.int .i64 0, .string ⟨#[]⟩, .slice none 0 0, .bool false] 163)).setRow w2.heap.size #[.int .i64 0, .string ⟨#[]⟩, .slice none 0 0, .bool false])) := below_setRow (hb12.alloc hb12.size _) (by have := hb12.size; omega) _
  clear b0 hb hb2 HS hb12
  go_wp2_with (first | (refine wpList_store_row (by rfl) 163 _ _ (by rfl) (w2.heap.size) #[.int .i64 0, .string ⟨#[]⟩, .slice none 0 0, .bool false] (by rfl) (by rfl) 163 #[.int .i64 0, .string ⟨#[]⟩, .slice none 0 0, .bool false] (by exact b3) (size_sp.trans (by rfl)) (by rfl) (by rfl) ?_; simp only [Act.put, List.setIfInBounds_toArray, List.set_cons_zero, List.set_cons_succ]) | fail)
  go_ret2
  first | exact ⟨rfl, HB.out⟩ | exact ⟨rfl, HB2.out⟩
set_option maxRecDepth 100000 in
set_option maxHeartbeats 4000000 in
theorem brcreate_nil (s : ByteArray) (st : Int) (w : World) : Calls Tryz.prog 80 #[.pointer none, .string s, .int .u64 st] w fun e w' => e = .returned (.tuple #[.int .i64 0, .int .i64 1]) ∧ Below w.heap.size w w' := by
  have HM : Hid (∀ w : World, Calls Tryz.prog 131 #[.agg #[.pointer none, .int .u64 st, .nilFunc], .string s, .int .i64 1] w fun e w' => e = .returned (.tuple #[.int .i64 0, .int .i64 1]) ∧ Below w.heap.size w w') := fun w => brmake_nil s 1 st .nilFunc rfl w
  go_enter Tryz.func80, Tryz.ntmps80
  go_wp2_with fail
  refine (HM.out _).mono ?_
  rintro e w2 ⟨rfl, hb2⟩
  have HB : Hid (Below w.heap.size w w2) := hb2
  clear hb2 HM
  go_wp2_with fail
  go_ret2
  exact ⟨rfl, HB.out⟩
set_option maxRecDepth 100000 in
set_option maxHeartbeats 4000000 in
theorem brmkdir_nil (s : ByteArray) (st : Int) (w : World) : Calls Tryz.prog 78 #[.pointer none, .string s, .int .u64 st] w fun e w' => e = .returned (.tuple #[.int .i64 0, .int .i64 1]) ∧ Below w.heap.size w w' := by
  have HM : Hid (∀ w : World, Calls Tryz.prog 131 #[.agg #[.pointer none, .int .u64 st, .nilFunc], .string s, .int .i64 2] w fun e w' => e = .returned (.tuple #[.int .i64 0, .int .i64 1]) ∧ Below w.heap.size w w') := fun w => brmake_nil s 2 st .nilFunc rfl w
  go_enter Tryz.func78, Tryz.ntmps78
  go_wp2_with fail
  refine (HM.out _).mono ?_
  rintro e w2 ⟨rfl, hb2⟩
  have HB : Hid (Below w.heap.size w w2) := hb2
  clear hb2 HM
  go_wp2_with fail
  go_ret2
  exact ⟨rfl, HB.out⟩
set_option maxRecDepth 100000 in
set_option maxHeartbeats 4000000 in
theorem brtaken_nil (s : ByteArray) (st : Int) (fv : Value) (hf : fv.oneCell' = true) (w : World) : Calls Tryz.prog 93 #[.agg #[.pointer none, .int .u64 st, fv], .string s] w fun e w' => e = .returned (.tuple #[.agg #[.int .i64 0, .string ⟨#[]⟩, .slice none 0 0, .bool false], .agg #[.int .i64 0, .int .i64 0, .int .i64 0, .int .i64 0, .int .u64 0], .int .i64 1]) ∧ Below w.heap.size w w' := by
  have hz := sp_zero
  have hz2 := n5_zero
  have HS : Hid (∀ w : World, Calls Tryz.prog 86 #[.agg #[.pointer none, .int .u64 st, fv], .string s] w fun e w' => e = .returned (.tuple #[.agg #[.int .i64 0, .string ⟨#[]⟩, .slice none 0 0, .bool false], .int .i64 1]) ∧ Below w.heap.size w w') := fun w => brspot_nil s st fv hf w
  have b0 : Blk (((w.alloc (.cells #[.pointer none, .int .u64 st, fv] 161)).alloc (.cells #[.int .i64 0, .string ⟨#[]⟩, .slice none 0 0, .bool false] 163)).alloc (.cells #[.int .i64 0, .int .i64 0, .int .i64 0, .int .i64 0, .int .u64 0] 86)) w.heap.size 161 #[.pointer none, .int .u64 st, fv] := Blk.alloc (Blk.alloc (Blk.new _ _ _) _) _
  have b1 : Blk (((w.alloc (.cells #[.pointer none, .int .u64 st, fv] 161)).alloc (.cells #[.int .i64 0, .string ⟨#[]⟩, .slice none 0 0, .bool false] 163)).alloc (.cells #[.int .i64 0, .int .i64 0, .int .i64 0, .int .i64 0, .int .u64 0] 86)) (w.heap.size + 1) 163 #[.int .i64 0, .string ⟨#[]⟩, .slice none 0 0, .bool false] := Blk.alloc (Blk.new1 _ _ _ _) _
  have b2 : Blk (((w.alloc (.cells #[.pointer none, .int .u64 st, fv] 161)).alloc (.cells #[.int .i64 0, .string ⟨#[]⟩, .slice none 0 0, .bool false] 163)).alloc (.cells #[.int .i64 0, .int .i64 0, .int .i64 0, .int .i64 0, .int .u64 0] 86)) (w.heap.size + 1 + 1) 86 #[.int .i64 0, .int .i64 0, .int .i64 0, .int .i64 0, .int .u64 0] := Blk.new2 _ _ _ _ _
  have hb : Below w.heap.size w (((w.alloc (.cells #[.pointer none, .int .u64 st, fv] 161)).alloc (.cells #[.int .i64 0, .string ⟨#[]⟩, .slice none 0 0, .bool false] 163)).alloc (.cells #[.int .i64 0, .int .i64 0, .int .i64 0, .int .i64 0, .int .u64 0] 86)) := below_new3 _ _ _ _
  have k0 := (b0.cell 0).trans rfl
  have k1 := (b0.cell 1).trans rfl
  have k2 := (b0.cell 2).trans rfl
  go_enter Tryz.func93, Tryz.ntmps93
  go_wp2_with fail
  generalize (((w.alloc (.cells #[.pointer none, .int .u64 st, fv] 161)).alloc (.cells #[.int .i64 0, .string ⟨#[]⟩, .slice none 0 0, .bool false] 163)).alloc (.cells #[.int .i64 0, .int .i64 0, .int .i64 0, .int .i64 0, .int .u64 0] 86)) = w1 at *
  refine (HS.out _).mono ?_
  rintro e w2 ⟨rfl, hb2⟩
  have hb12 := hb.trans (hb2.mono hb.size)
  have c1 := (b1.below hb2 b1.lt).alloc (.cells #[.int .i64 0, .string ⟨#[]⟩, .slice none 0 0, .bool false] 163)
  have c2 := (b2.below hb2 b2.lt).alloc (.cells #[.int .i64 0, .string ⟨#[]⟩, .slice none 0 0, .bool false] 163)
  have hb3 : Below w.heap.size w (w2.alloc (.cells #[.int .i64 0, .string ⟨#[]⟩, .slice none 0 0, .bool false] 163)) := hb12.alloc hb12.size _
  have HB : Hid (Below w.heap.size w ((((((((((w2.alloc (.cells #[.int .i64 0, .string ⟨#[]⟩, .slice none 0 0, .bool false] 163)).setCell ⟨w.heap.size + 1, 0, none⟩ (.int .i64 0)).setCell ⟨w.heap.size + 1, 1, none⟩ (.string ⟨#[]⟩)).setCell ⟨w.heap.size + 1, 2, none⟩ (.slice none 0 0)).setCell ⟨w.heap.size + 1, 3, none⟩ (.bool false)).setCell ⟨w.heap.size + 1 + 1, 0, none⟩ (.int .i64 0)).setCell ⟨w.heap.size + 1 + 1, 1, none⟩ (.int .i64 0)).setCell ⟨w.heap.size + 1 + 1, 2, none⟩ (.int .i64 0)).setCell ⟨w.heap.size + 1 + 1, 3, none⟩ (.int .i64 0)).setCell ⟨w.heap.size + 1 + 1, 4, none⟩ (.int .u64 0))) := (((((((((hb3.setCell (p := ⟨w.heap.size + 1, 0, none⟩) (by show w.heap.size ≤ w.heap.size + 1; omega) (.int .i64 0)).setCell (p := ⟨w.heap.size + 1, 1, none⟩) (by show w.heap.size ≤ w.heap.size + 1; omega) (.string ⟨#[]⟩)).setCell (p := ⟨w.heap.size + 1, 2, none⟩) (by show w.heap.size ≤ w.heap.size + 1; omega) (.slice none 0 0)).setCell (p := ⟨w.heap.size + 1, 3, none⟩) (by show w.heap.size ≤ w.heap.size + 1; omega) (.bool false)).setCell (p := ⟨w.heap.size + 1 + 1, 0, none⟩) (by show w.heap.size ≤ w.heap.size + 1 + 1; omega) (.int .i64 0)).setCell (p := ⟨w.heap.size + 1 + 1, 1, none⟩) (by show w.heap.size ≤ w.heap.size + 1 + 1; omega) (.int .i64 0)).setCell (p := ⟨w.heap.size + 1 + 1, 2, none⟩) (by show w.heap.size ≤ w.heap.size + 1 + 1; omega) (.int .i64 0)).setCell (p := ⟨w.heap.size + 1 + 1, 3, none⟩) (by show w.heap.size ≤ w.heap.size + 1 + 1; omega) (.int .i64 0)).setCell (p := ⟨w.heap.size + 1 + 1, 4, none⟩) (by show w.heap.size ≤ w.heap.size + 1 + 1; omega) (.int .u64 0))
  have r1 : Blk ((((((((((w2.alloc (.cells #[.int .i64 0, .string ⟨#[]⟩, .slice none 0 0, .bool false] 163)).setCell ⟨w.heap.size + 1, 0, none⟩ (.int .i64 0)).setCell ⟨w.heap.size + 1, 1, none⟩ (.string ⟨#[]⟩)).setCell ⟨w.heap.size + 1, 2, none⟩ (.slice none 0 0)).setCell ⟨w.heap.size + 1, 3, none⟩ (.bool false)).setCell ⟨w.heap.size + 1 + 1, 0, none⟩ (.int .i64 0)).setCell ⟨w.heap.size + 1 + 1, 1, none⟩ (.int .i64 0)).setCell ⟨w.heap.size + 1 + 1, 2, none⟩ (.int .i64 0)).setCell ⟨w.heap.size + 1 + 1, 3, none⟩ (.int .i64 0)).setCell ⟨w.heap.size + 1 + 1, 4, none⟩ (.int .u64 0)) (w.heap.size + 1) 163 #[.int .i64 0, .string ⟨#[]⟩, .slice none 0 0, .bool false] := (((((((((c1.put 0 (.int .i64 0)).put 1 (.string ⟨#[]⟩)).put 2 (.slice none 0 0)).put 3 (.bool false)).put_other 0 (.int .i64 0) (by omega)).put_other 1 (.int .i64 0) (by omega)).put_other 2 (.int .i64 0) (by omega)).put_other 3 (.int .i64 0) (by omega)).put_other 4 (.int .u64 0) (by omega))
  have r2 : Blk ((((((((((w2.alloc (.cells #[.int .i64 0, .string ⟨#[]⟩, .slice none 0 0, .bool false] 163)).setCell ⟨w.heap.size + 1, 0, none⟩ (.int .i64 0)).setCell ⟨w.heap.size + 1, 1, none⟩ (.string ⟨#[]⟩)).setCell ⟨w.heap.size + 1, 2, none⟩ (.slice none 0 0)).setCell ⟨w.heap.size + 1, 3, none⟩ (.bool false)).setCell ⟨w.heap.size + 1 + 1, 0, none⟩ (.int .i64 0)).setCell ⟨w.heap.size + 1 + 1, 1, none⟩ (.int .i64 0)).setCell ⟨w.heap.size + 1 + 1, 2, none⟩ (.int .i64 0)).setCell ⟨w.heap.size + 1 + 1, 3, none⟩ (.int .i64 0)).setCell ⟨w.heap.size + 1 + 1, 4, none⟩ (.int .u64 0)) (w.heap.size + 1 + 1) 86 #[.int .i64 0, .int .i64 0, .int .i64 0, .int .i64 0, .int .u64 0] := (((((((((c2.put_other 0 (.int .i64 0) (by omega)).put_other 1 (.string ⟨#[]⟩) (by omega)).put_other 2 (.slice none 0 0) (by omega)).put_other 3 (.bool false) (by omega)).put 0 (.int .i64 0)).put 1 (.int .i64 0)).put 2 (.int .i64 0)).put 3 (.int .i64 0)).put 4 (.int .u64 0))
  have HR : Hid (Blk ((((((((((w2.alloc (.cells #[.int .i64 0, .string ⟨#[]⟩, .slice none 0 0, .bool false] 163)).setCell ⟨w.heap.size + 1, 0, none⟩ (.int .i64 0)).setCell ⟨w.heap.size + 1, 1, none⟩ (.string ⟨#[]⟩)).setCell ⟨w.heap.size + 1, 2, none⟩ (.slice none 0 0)).setCell ⟨w.heap.size + 1, 3, none⟩ (.bool false)).setCell ⟨w.heap.size + 1 + 1, 0, none⟩ (.int .i64 0)).setCell ⟨w.heap.size + 1 + 1, 1, none⟩ (.int .i64 0)).setCell ⟨w.heap.size + 1 + 1, 2, none⟩ (.int .i64 0)).setCell ⟨w.heap.size + 1 + 1, 3, none⟩ (.int .i64 0)).setCell ⟨w.heap.size + 1 + 1, 4, none⟩ (.int .u64 0)) (w.heap.size + 1) 163 #[.int .i64 0, .string ⟨#[]⟩, .slice none 0 0, .bool false] ∧ Blk ((((((((((w2.alloc (.cells #[.int .i64 0, .string ⟨#[]⟩, .slice none 0 0, .bool false] 163)).setCell ⟨w.heap.size + 1, 0, none⟩ (.int .i64 0)).setCell ⟨w.heap.size + 1, 1, none⟩ (.string ⟨#[]⟩)).setCell ⟨w.heap.size + 1, 2, none⟩ (.slice none 0 0)).setCell ⟨w.heap.size + 1, 3, none⟩ (.bool false)).setCell ⟨w.heap.size + 1 + 1, 0, none⟩ (.int .i64 0)).setCell ⟨w.heap.size + 1 + 1, 1, none⟩ (.int .i64 0)).setCell ⟨w.heap.size + 1 + 1, 2, none⟩ (.int .i64 0)).setCell ⟨w.heap.size + 1 + 1, 3, none⟩ (.int .i64 0)).setCell ⟨w.heap.size + 1 + 1, 4, none⟩ (.int .u64 0)) (w.heap.size + 1 + 1) 86 #[.int .i64 0, .int .i64 0, .int .i64 0, .int .i64 0, .int .u64 0]) := ⟨r1, r2⟩
  have d0 := (c1.cell 0).trans rfl
  have e0 := c1.frozen 0
  have d1 := (c1.cell 1).trans rfl
  have e1 := c1.frozen 1
  have d2 := (c1.cell 2).trans rfl
  have e2 := c1.frozen 2
  have d3 := (c1.cell 3).trans rfl
  have e3 := c1.frozen 3
  have p0 := (c2.cell 0).trans rfl
  have q0 := c2.frozen 0
  have p1 := (c2.cell 1).trans rfl
  have q1 := c2.frozen 1
  have p2 := (c2.cell 2).trans rfl
  have q2 := c2.frozen 2
  have p3 := (c2.cell 3).trans rfl
  have q3 := c2.frozen 3
  have p4 := (c2.cell 4).trans rfl
  have q4 := c2.frozen 4
  clear b0 b1 b2 hb hb2 HS hb12 c1 c2 hb3 r1 r2 k0 k1 k2
  go_wp2_with fail
  try simp only [Exit.inBlock, Exit.then]
  refine bodyPost_ret (res_cct Tryz.results93 _ _ (w.heap.size + 1) (w.heap.size + 1 + 1) 163 86 #[.int .i64 0, .string ⟨#[]⟩, .slice none 0 0, .bool false] #[.int .i64 0, .int .i64 0, .int .i64 0, .int .i64 0, .int .u64 0] _ _ rfl rfl HR.out.1 HR.out.2 Tryz.underlying163 rfl (size_sp.trans (by rfl)) Tryz.underlying86 rfl (size_nf.trans (by rfl))) rfl ?_
  exact ⟨rfl, HB.out⟩
set_option maxRecDepth 100000 in
set_option maxHeartbeats 4000000 in
theorem brunlink_nil (s : ByteArray) (st : Int) (fv : Value) (hv : fv = .nilFunc ∨ ∃ f b c, fv = .func f b c) (w : World) : Calls Tryz.prog 82 #[.pointer none, .string s, .int .u64 st, fv] w fun e w' => e = .returned (.tuple #[.int .i64 0, .int .i64 1]) ∧ Below w.heap.size w w' := by
  have hf : fv.oneCell' = true := by rcases hv with rfl | ⟨f, b, c, rfl⟩ <;> rfl
  rcases hv with rfl | ⟨f0, b0x, c0x, rfl⟩
  · have hz := sp_zero
    have hz2 := n5_zero
    have hz3 := mv_zero
    have HT : Hid (∀ w : World, Calls Tryz.prog 93 #[.agg #[.pointer none, .int .u64 st, .nilFunc], .string s] w fun e w' => e = .returned (.tuple #[.agg #[.int .i64 0, .string ⟨#[]⟩, .slice none 0 0, .bool false], .agg #[.int .i64 0, .int .i64 0, .int .i64 0, .int .i64 0, .int .u64 0], .int .i64 1]) ∧ Below w.heap.size w w') := fun w => brtaken_nil s st .nilFunc hf w
    have b0 : Blk (w.alloc (.cells #[.pointer none, .int .u64 st, .nilFunc] 161)) w.heap.size 161 #[.pointer none, .int .u64 st, .nilFunc] := Blk.new _ _ _
    have hb : Below w.heap.size w (w.alloc (.cells #[.pointer none, .int .u64 st, .nilFunc] 161)) := below_new1 _ _
    have k0 := (b0.cell 0).trans rfl
    have k1 := (b0.cell 1).trans rfl
    have k2 := (b0.cell 2).trans rfl
    go_enter Tryz.func82, Tryz.ntmps82
    go_wp2_with fail
    generalize (w.alloc (.cells #[.pointer none, .int .u64 st, .nilFunc] 161)) = w1 at *
    refine (HT.out _).mono ?_
    rintro e w2 ⟨rfl, hb2⟩
    have hb12 := hb.trans (hb2.mono hb.size)
    have HB : Hid (Below w.heap.size w ((w2.alloc (.cells #[.int .i64 0, .string ⟨#[]⟩, .slice none 0 0, .bool false] 163)).alloc (.cells #[.int .i64 0, .int .i64 0, .int .i64 0, .int .i64 0, .int .u64 0] 86))) := hb12.trans ((below_new2 _ _ _).mono hb12.size)
    clear b0 hb hb2 HT hb12 k0 k1 k2
    go_wp2_with fail
    go_ret2
    exact ⟨rfl, HB.out⟩
  · have hz := sp_zero
    have hz2 := n5_zero
    have hz3 := mv_zero
    have HT : Hid (∀ w : World, Calls Tryz.prog 93 #[.agg #[.pointer none, .int .u64 st, (.func f0 b0x c0x)], .string s] w fun e w' => e = .returned (.tuple #[.agg #[.int .i64 0, .string ⟨#[]⟩, .slice none 0 0, .bool false], .agg #[.int .i64 0, .int .i64 0, .int .i64 0, .int .i64 0, .int .u64 0], .int .i64 1]) ∧ Below w.heap.size w w') := fun w => brtaken_nil s st (.func f0 b0x c0x) hf w
    have b0 : Blk (w.alloc (.cells #[.pointer none, .int .u64 st, (.func f0 b0x c0x)] 161)) w.heap.size 161 #[.pointer none, .int .u64 st, (.func f0 b0x c0x)] := Blk.new _ _ _
    have hb : Below w.heap.size w (w.alloc (.cells #[.pointer none, .int .u64 st, (.func f0 b0x c0x)] 161)) := below_new1 _ _
    have k0 := (b0.cell 0).trans rfl
    have k1 := (b0.cell 1).trans rfl
    have k2 := (b0.cell 2).trans rfl
    go_enter Tryz.func82, Tryz.ntmps82
    go_wp2_with fail
    generalize (w.alloc (.cells #[.pointer none, .int .u64 st, (.func f0 b0x c0x)] 161)) = w1 at *
    refine (HT.out _).mono ?_
    rintro e w2 ⟨rfl, hb2⟩
    have hb12 := hb.trans (hb2.mono hb.size)
    have HB : Hid (Below w.heap.size w ((w2.alloc (.cells #[.int .i64 0, .string ⟨#[]⟩, .slice none 0 0, .bool false] 163)).alloc (.cells #[.int .i64 0, .int .i64 0, .int .i64 0, .int .i64 0, .int .u64 0] 86))) := hb12.trans ((below_new2 _ _ _).mono hb12.size)
    clear b0 hb hb2 HT hb12 k0 k1 k2
    go_wp2_with fail
    go_ret2
    exact ⟨rfl, HB.out⟩
set_option maxRecDepth 100000 in
set_option maxHeartbeats 4000000 in
theorem brrmdir_nil (s : ByteArray) (st : Int) (fv : Value) (hv : fv = .nilFunc ∨ ∃ f b c, fv = .func f b c) (w : World) : Calls Tryz.prog 83 #[.pointer none, .string s, .int .u64 st, fv] w fun e w' => e = .returned (.tuple #[.int .i64 0, .int .i64 1]) ∧ Below w.heap.size w w' := by
  have hf : fv.oneCell' = true := by rcases hv with rfl | ⟨f, b, c, rfl⟩ <;> rfl
  rcases hv with rfl | ⟨f0, b0x, c0x, rfl⟩
  · have hz := sp_zero
    have hz2 := n5_zero
    have hz3 := mv_zero
    have HT : Hid (∀ w : World, Calls Tryz.prog 93 #[.agg #[.pointer none, .int .u64 st, .nilFunc], .string s] w fun e w' => e = .returned (.tuple #[.agg #[.int .i64 0, .string ⟨#[]⟩, .slice none 0 0, .bool false], .agg #[.int .i64 0, .int .i64 0, .int .i64 0, .int .i64 0, .int .u64 0], .int .i64 1]) ∧ Below w.heap.size w w') := fun w => brtaken_nil s st .nilFunc hf w
    have b0 : Blk (w.alloc (.cells #[.pointer none, .int .u64 st, .nilFunc] 161)) w.heap.size 161 #[.pointer none, .int .u64 st, .nilFunc] := Blk.new _ _ _
    have hb : Below w.heap.size w (w.alloc (.cells #[.pointer none, .int .u64 st, .nilFunc] 161)) := below_new1 _ _
    have k0 := (b0.cell 0).trans rfl
    have k1 := (b0.cell 1).trans rfl
    have k2 := (b0.cell 2).trans rfl
    go_enter Tryz.func83, Tryz.ntmps83
    go_wp2_with fail
    generalize (w.alloc (.cells #[.pointer none, .int .u64 st, .nilFunc] 161)) = w1 at *
    refine (HT.out _).mono ?_
    rintro e w2 ⟨rfl, hb2⟩
    have hb12 := hb.trans (hb2.mono hb.size)
    have HB : Hid (Below w.heap.size w ((w2.alloc (.cells #[.int .i64 0, .string ⟨#[]⟩, .slice none 0 0, .bool false] 163)).alloc (.cells #[.int .i64 0, .int .i64 0, .int .i64 0, .int .i64 0, .int .u64 0] 86))) := hb12.trans ((below_new2 _ _ _).mono hb12.size)
    clear b0 hb hb2 HT hb12 k0 k1 k2
    go_wp2_with fail
    go_ret2
    exact ⟨rfl, HB.out⟩
  · have hz := sp_zero
    have hz2 := n5_zero
    have hz3 := mv_zero
    have HT : Hid (∀ w : World, Calls Tryz.prog 93 #[.agg #[.pointer none, .int .u64 st, (.func f0 b0x c0x)], .string s] w fun e w' => e = .returned (.tuple #[.agg #[.int .i64 0, .string ⟨#[]⟩, .slice none 0 0, .bool false], .agg #[.int .i64 0, .int .i64 0, .int .i64 0, .int .i64 0, .int .u64 0], .int .i64 1]) ∧ Below w.heap.size w w') := fun w => brtaken_nil s st (.func f0 b0x c0x) hf w
    have b0 : Blk (w.alloc (.cells #[.pointer none, .int .u64 st, (.func f0 b0x c0x)] 161)) w.heap.size 161 #[.pointer none, .int .u64 st, (.func f0 b0x c0x)] := Blk.new _ _ _
    have hb : Below w.heap.size w (w.alloc (.cells #[.pointer none, .int .u64 st, (.func f0 b0x c0x)] 161)) := below_new1 _ _
    have k0 := (b0.cell 0).trans rfl
    have k1 := (b0.cell 1).trans rfl
    have k2 := (b0.cell 2).trans rfl
    go_enter Tryz.func83, Tryz.ntmps83
    go_wp2_with fail
    generalize (w.alloc (.cells #[.pointer none, .int .u64 st, (.func f0 b0x c0x)] 161)) = w1 at *
    refine (HT.out _).mono ?_
    rintro e w2 ⟨rfl, hb2⟩
    have hb12 := hb.trans (hb2.mono hb.size)
    have HB : Hid (Below w.heap.size w ((w2.alloc (.cells #[.int .i64 0, .string ⟨#[]⟩, .slice none 0 0, .bool false] 163)).alloc (.cells #[.int .i64 0, .int .i64 0, .int .i64 0, .int .i64 0, .int .u64 0] 86))) := hb12.trans ((below_new2 _ _ _).mono hb12.size)
    clear b0 hb hb2 HT hb12 k0 k1 k2
    go_wp2_with fail
    go_ret2
    exact ⟨rfl, HB.out⟩
set_option maxRecDepth 100000 in
set_option maxHeartbeats 4000000 in
theorem brrename_nil (o s : ByteArray) (st : Int) (fv : Value) (hv : fv = .nilFunc ∨ ∃ f b c, fv = .func f b c) (w : World) : Calls Tryz.prog 85 #[.pointer none, .string o, .string s, .int .u64 st, fv] w fun e w' => e = .returned (.tuple #[.int .i64 0, .int .i64 1]) ∧ Below w.heap.size w w' := by
  have hf : fv.oneCell' = true := by rcases hv with rfl | ⟨f, b, c, rfl⟩ <;> rfl
  rcases hv with rfl | ⟨f0, b0x, c0x, rfl⟩
  · have hz := sp_zero
    have hz3 := mv_zero
    have HS : Hid (∀ w : World, Calls Tryz.prog 86 #[.agg #[.pointer none, .int .u64 st, .nilFunc], .string o] w fun e w' => e = .returned (.tuple #[.agg #[.int .i64 0, .string ⟨#[]⟩, .slice none 0 0, .bool false], .int .i64 1]) ∧ Below w.heap.size w w') := fun w => brspot_nil o st .nilFunc hf w
    have b0 : Blk (w.alloc (.cells #[.pointer none, .int .u64 st, .nilFunc] 161)) w.heap.size 161 #[.pointer none, .int .u64 st, .nilFunc] := Blk.new _ _ _
    have hb : Below w.heap.size w (w.alloc (.cells #[.pointer none, .int .u64 st, .nilFunc] 161)) := below_new1 _ _
    have k0 := (b0.cell 0).trans rfl
    have k1 := (b0.cell 1).trans rfl
    have k2 := (b0.cell 2).trans rfl
    go_enter Tryz.func85, Tryz.ntmps85
    go_wp2_with fail
    generalize (w.alloc (.cells #[.pointer none, .int .u64 st, .nilFunc] 161)) = w1 at *
    refine (HS.out _).mono ?_
    rintro e w2 ⟨rfl, hb2⟩
    have hb12 := hb.trans (hb2.mono hb.size)
    have HB : Hid (Below w.heap.size w (w2.alloc (.cells #[.int .i64 0, .string ⟨#[]⟩, .slice none 0 0, .bool false] 163))) := hb12.alloc hb12.size _
    clear b0 hb hb2 HS hb12 k0 k1 k2
    go_wp2_with fail
    go_ret2
    exact ⟨rfl, HB.out⟩
  · have hz := sp_zero
    have hz3 := mv_zero
    have HS : Hid (∀ w : World, Calls Tryz.prog 86 #[.agg #[.pointer none, .int .u64 st, (.func f0 b0x c0x)], .string o] w fun e w' => e = .returned (.tuple #[.agg #[.int .i64 0, .string ⟨#[]⟩, .slice none 0 0, .bool false], .int .i64 1]) ∧ Below w.heap.size w w') := fun w => brspot_nil o st (.func f0 b0x c0x) hf w
    have b0 : Blk (w.alloc (.cells #[.pointer none, .int .u64 st, (.func f0 b0x c0x)] 161)) w.heap.size 161 #[.pointer none, .int .u64 st, (.func f0 b0x c0x)] := Blk.new _ _ _
    have hb : Below w.heap.size w (w.alloc (.cells #[.pointer none, .int .u64 st, (.func f0 b0x c0x)] 161)) := below_new1 _ _
    have k0 := (b0.cell 0).trans rfl
    have k1 := (b0.cell 1).trans rfl
    have k2 := (b0.cell 2).trans rfl
    go_enter Tryz.func85, Tryz.ntmps85
    go_wp2_with fail
    generalize (w.alloc (.cells #[.pointer none, .int .u64 st, (.func f0 b0x c0x)] 161)) = w1 at *
    refine (HS.out _).mono ?_
    rintro e w2 ⟨rfl, hb2⟩
    have hb12 := hb.trans (hb2.mono hb.size)
    have HB : Hid (Below w.heap.size w (w2.alloc (.cells #[.int .i64 0, .string ⟨#[]⟩, .slice none 0 0, .bool false] 163))) := hb12.alloc hb12.size _
    clear b0 hb hb2 HS hb12 k0 k1 k2
    go_wp2_with fail
    go_ret2
    exact ⟨rfl, HB.out⟩
set_option maxRecDepth 100000 in
set_option maxHeartbeats 4000000 in
theorem brlink_nil (o s : ByteArray) (st : Int) (w : World) : Calls Tryz.prog 81 #[.pointer none, .string o, .string s, .int .u64 st] w fun e w' => e = .returned (.int .i64 1) ∧ Below w.heap.size w w' := by
  have hz2 := n5_zero
  have hz3 := mv_zero
  have HL : Hid (∀ w : World, Calls Tryz.prog 37 #[.pointer none, .string o] w fun e w' => e = .returned (.tuple #[.agg #[.int .i64 0, .int .i64 0, .int .i64 0, .int .i64 0, .int .u64 0], .int .i64 1]) ∧ Below w.heap.size w w') := fun w => brlookup_nil o w
  have hb : Below w.heap.size w (w.alloc (.cells #[.pointer none, .int .u64 st, .nilFunc] 161)) := below_new1 _ _
  go_enter Tryz.func81, Tryz.ntmps81
  go_wp2_with fail
  generalize (w.alloc (.cells #[.pointer none, .int .u64 st, .nilFunc] 161)) = w1 at *
  refine (HL.out _).mono ?_
  rintro e w2 ⟨rfl, hb2⟩
  have hb12 := hb.trans (hb2.mono hb.size)
  have HB : Hid (Below w.heap.size w (w2.alloc (.cells #[.int .i64 0, .int .i64 0, .int .i64 0, .int .i64 0, .int .u64 0] 86))) := hb12.alloc hb12.size _
  clear hb hb2 HL hb12
  go_wp2_with fail
  go_ret
  exact ⟨rfl, HB.out⟩
set_option maxRecDepth 100000 in
set_option maxHeartbeats 4000000 in
theorem brbegin_nil (st : Int) (w : World) : Calls Tryz.prog 84 #[.pointer none, .int .u64 st] w fun e w' => e = .returned (.int .i64 1) ∧ Below w.heap.size w w' := by
  go_enter Tryz.func84, Tryz.ntmps84
  go_wp2_with fail
  go_ret
  exact ⟨rfl, Below.refl _ _⟩
end Go.Proofs.YtojnlmfahgeidaaGreatDoor
