/- As the law for a region in parts; in the place of 'the memory below B is as it was' stands whatever S is shown to hold behind each part. No program in it. -/
import Derived.Test.YtlmbokfgogkbmaaHBlkGroups
import Derived.Deep.MidRow
import Derived.Handy
import Derived.BigQuiet
import Derived.Deep.QuietTactic
import Derived.Test.YtlmbokfgogkbmaaHTurnsMix

namespace Go.Proofs.Ytlmbokfgogkbmaa
open Go Go.RowKit
set_option linter.unusedSimpArgs false
set_option linter.unusedVariables false

/-- a raw step and a block, as a key -/
def momK (a : Int × Int) : Value := .agg #[.int .i64 a.1, .int .i64 a.2]
theorem eq_mom (d : Nat) (a b : Int × Int) (w : World) : (Op.equalIn (d + 1 + 1) 122 (momK a) (momK b)).run Try.prog w = .ok (decide (a = b)) w := by
  unfold momK
  have h1 : ∀ x y : Int, (Op.equalIn (d + 1) 3 (.int .i64 x) (.int .i64 y)).run Try.prog w = .ok (x == y) w := fun x y => by simp [Op.equalIn, run_underlying Try.underlying3]
  have p1 : ∀ x y : Int, (part 3 #[.int .i64 x, .int .i64 y] 0).run Try.prog w = .ok (.int .i64 x) w := fun x y => by simp [part, isAgg, run_underlying Try.underlying3]
  have p2 : ∀ x y : Int, (part 3 #[.int .i64 x, .int .i64 y] 1).run Try.prog w = .ok (.int .i64 y) w := fun x y => by simp [part, isAgg, run_underlying Try.underlying3]
  rw [Op.equalIn]
  simp only [Sem.run_bind, run_underlying Try.underlying122, Result.andThen_ok]
  simp [Op.eqFields, p1, p2, h1]
  obtain ⟨a1, a2⟩ := a
  obtain ⟨b1, b2⟩ := b
  by_cases ha : a1 = b1
  · subst ha
    by_cases hb : a2 = b2
    · subst hb
      simp
    · simp [hb]
  · simp [ha]
theorem chk_mom (d : Nat) (e : Bool) (a : Int × Int) (w : World) : (Instr.checkKey e (d + 1 + 1) 122 (momK a)).run Try.prog w = .ok () w := by
  unfold momK
  have h1 : ∀ x : Int, (Instr.checkKey e (d + 1) 3 (.int .i64 x)).run Try.prog w = .ok () w := fun x => by simp [Instr.checkKey, run_underlying Try.underlying3]
  have p1 : ∀ x y : Int, (part 3 #[.int .i64 x, .int .i64 y] 0).run Try.prog w = .ok (.int .i64 x) w := fun x y => by simp [part, isAgg, run_underlying Try.underlying3]
  have p2 : ∀ x y : Int, (part 3 #[.int .i64 x, .int .i64 y] 1).run Try.prog w = .ok (.int .i64 y) w := fun x y => by simp [part, isAgg, run_underlying Try.underlying3]
  rw [Instr.checkKey]
  simp only [Sem.run_bind, run_underlying Try.underlying122, Result.andThen_ok]
  simp [p1, p2, h1]
theorem mom_key : KeyOf Try.prog 122 momK where
  desc := ⟨_, Try.underlying122, (fun k h => by cases h), (fun h => by cases h), (fun h => by cases h)⟩
  eq a b w := eq_mom 9998 a b w
  chk e a w := chk_mom 9998 e a w

/-- what a disk has in the memory -/
structure QD where
  gn : Nat
  r : Nat
  sv : Value
  pl : Value
  cu : Value
  dd : Bool
  ev : Int
  lv : Value
  wv : Value
  l : List ((Int × Int) × Vector Nat 256)
  G : List (List Nat)
  ss : List Value
  xs : List Value
  ys : List Value
def dcells (q : QD) (N k : Nat) : Array Value := #[.slice (some ⟨q.gn, 0, none⟩) N N, .map (some q.r), q.sv, q.pl, q.cu, .bool q.dd, .int .i64 (k : Int), .int .i64 q.ev, q.lv, q.wv]
/-- a disk of N blocks in block g: the bytes F, k raw steps, lg entries of the log -/
structure DiskQ (w : World) (B g N : Nat) (F : Nat → Nat) (k lg : Nat) (q : QD) : Prop where
  gB : B ≤ g
  cells : Blk w g 96 (dcells q N k)
  nB : B ≤ q.gn
  now : Blk w q.gn 60 (va (N * 256) (iv .u8 F))
  rB : B ≤ q.r
  map : MapIs momK bK w q.r q.l
  keys : ∀ p ∈ q.l, p.1.1 ≤ (k : Int)
  steps : GrpAt w B q.sv q.G q.ss
  many : q.G.length = N
  short : ∀ j, (q.G.getD j []).length ≤ k
  log : w.ownsRow B 106 258 q.lv lg q.xs
  wear : w.ownsRow B 3 1 q.wv N q.ys
  ints : ∀ j, j < N → ∃ x : Int, q.ys[j]? = some (.int .i64 x)
  apart : ∀ j, j < N → ∀ b, (q.ss.getD j undef).ownBlock = some b → q.wv.ownBlock ≠ some b
/-- its blocks in the memory -/
def foot (g N : Nat) (q : QD) (b : Nat) : Prop := b = g ∨ b = q.gn ∨ b = q.r ∨ q.sv.ownBlock = some b ∨ q.lv.ownBlock = some b ∨ q.wv.ownBlock = some b ∨ ∃ j, j < N ∧ (q.ss.getD j undef).ownBlock = some b
/-- only blocks of S turn -/
structure Turns (S : Nat → Prop) (w w' : World) : Prop where
  os : w'.os = w.os
  tape : w'.tape = w.tape
  output : w'.output = w.output
  size : w.heap.size ≤ w'.heap.size
  block : ∀ b, b < w.heap.size → ¬ S b → w'.heap[b]? = w.heap[b]?
theorem Turns.of_below {S : Nat → Prop} {w w' : World} (h : Below w.heap.size w w') : Turns S w w' := ⟨h.os, h.tape, h.output, h.size, fun b hb _ => h.block b hb⟩
theorem Turns.below {S : Nat → Prop} {w w' : World} {B : Nat} (h : Turns S w w') (hB : B ≤ w.heap.size) (hS : ∀ b, S b → B ≤ b) : Below B w w' := ⟨h.os, h.tape, h.output, h.size, fun b hb => h.block b (by omega) fun q => by have := hS b q; omega⟩
theorem Turns.trans {S T : Nat → Prop} {w v u : World} (h : Turns S w v) (k : Turns T v u) (hT : ∀ b, T b → S b ∨ w.heap.size ≤ b) : Turns S w u :=
  ⟨k.os.trans h.os, k.tape.trans h.tape, k.output.trans h.output, Nat.le_trans h.size k.size, fun b hb hS => (k.block b (Nat.lt_of_lt_of_le hb h.size) fun q => by rcases hT b q with z | z; exact hS z; omega).trans (h.block b hb hS)⟩
theorem Turns.mono {S T : Nat → Prop} {w v : World} (h : Turns S w v) (hT : ∀ b, S b → T b) : Turns T w v := ⟨h.os, h.tape, h.output, h.size, fun b hb hS => h.block b hb fun q => hS (hT b q)⟩
theorem Turns.drew {S : Nat → Prop} {w v : World} (h : Turns S w v) : Turns S w v.drew := ⟨h.os, h.tape, h.output, h.size, h.block⟩
/-- a disk goes from q to q' -/
def Moved (g N : Nat) (q q' : QD) (w w' : World) : Prop := Turns (foot g N q) w w' ∧ ∀ b, foot g N q' b → foot g N q b ∨ w.heap.size ≤ b
theorem Moved.of_below {g N : Nat} {q : QD} {w w' : World} (h : Below w.heap.size w w') : Moved g N q q w w' := ⟨.of_below h, fun _ => .inl⟩
theorem Moved.trans {g N : Nat} {p q r : QD} {w v u : World} (h : Moved g N p q w v) (k : Moved g N q r v u) : Moved g N p r w u :=
  ⟨h.1.trans k.1 h.2, fun b hb => by
    rcases k.2 b hb with z | z
    · exact h.2 b z
    · exact .inr (Nat.le_trans h.1.size z)⟩
section
variable {w w' : World} {B g N k lg : Nat} {F : Nat → Nat} {q : QD}
theorem DiskQ.foots (h : DiskQ w B g N F k lg q) : ∀ b, foot g N q b → B ≤ b ∧ b < w.heap.size := by
  intro b hb
  have hm := h.many
  rcases hb with rfl | rfl | rfl | z | z | z | ⟨j, hj, z⟩
  · exact ⟨h.gB, h.cells.lt⟩
  · exact ⟨h.nB, h.now.lt⟩
  · obtain ⟨es, cl, hg, _⟩ := h.map
    exact ⟨h.rB, (Array.getElem?_eq_some_iff.1 hg).1⟩
  · exact h.steps.row.lt b z
  · exact h.log.lt b z
  · exact h.wear.lt b z
  · exact (h.steps.each j (by omega)).lt b z
theorem DiskQ.kept (h : DiskQ w B g N F k lg q) (hk : ∀ b, foot g N q b → w'.heap[b]? = w.heap[b]?) : DiskQ w' B g N F k lg q := by
  have hm := h.many
  refine ⟨h.gB, (hk g (.inl rfl)).trans h.cells, h.nB, (hk _ (.inr (.inl rfl))).trans h.now, h.rB, ?_, h.keys, ⟨own_block h.steps.row fun b hb => hk b (.inr (.inr (.inr (.inl hb)))), fun j hj => own_block (h.steps.each j hj) fun b hb => hk b (.inr (.inr (.inr (.inr (.inr (.inr ⟨j, by omega, hb⟩)))))), h.steps.apart⟩, h.many, h.short, own_block h.log fun b hb => hk b (.inr (.inr (.inr (.inr (.inl hb))))), own_block h.wear fun b hb => hk b (.inr (.inr (.inr (.inr (.inr (.inl hb)))))), h.ints, h.apart⟩
  obtain ⟨es, cl, hg, he⟩ := h.map
  exact ⟨es, cl, (hk _ (.inr (.inr (.inl rfl)))).trans hg, he⟩
theorem DiskQ.below (h : DiskQ w B g N F k lg q) (hb : Below w.heap.size w w') : DiskQ w' B g N F k lg q := h.kept fun b hf => hb.block b (h.foots b hf).2
theorem blk_ne {a b s t : Nat} {cs ds : Array Value} (h : Blk w a s cs) (k : Blk w b t ds) (hne : s ≠ t) : a ≠ b := fun e => by
  subst e
  unfold Blk at h k
  rw [h] at k
  simp at k
  exact hne k.2
/-- what is in block g turns: counts -/
theorem DiskQ.put (h : DiskQ w B g N F k lg q) {k' : Nat} (hk : k ≤ k') (ev : Int) (hB : Blk w' g 96 (dcells { q with ev := ev } N k')) (hs : ∀ b, b ≠ g → w'.heap[b]? = w.heap[b]?) : DiskQ w' B g N F k' lg { q with ev := ev } := by
  have hm := h.many
  refine ⟨h.gB, hB, h.nB, (hs _ (blk_ne h.now h.cells (by decide))).trans h.now, h.rB, ?_, fun p hp => by have := h.keys p hp; omega, ⟨own_block h.steps.row fun b hb => hs b fun e => own_ne h.steps.row h.cells (by decide) (e ▸ hb), fun j hj => own_block (h.steps.each j hj) fun b hb => hs b fun e => own_ne (h.steps.each j hj) h.cells (by decide) (e ▸ hb), h.steps.apart⟩, h.many, fun j => Nat.le_trans (h.short j) hk, own_block h.log fun b hb => hs b fun e => own_ne h.log h.cells (by decide) (e ▸ hb), own_block h.wear fun b hb => hs b fun e => own_ne h.wear h.cells (by decide) (e ▸ hb), h.ints, h.apart⟩
  obtain ⟨es, cl, hg, he⟩ := h.map
  exact ⟨es, cl, (hs _ (map_blk hg h.cells)).trans hg, he⟩
/-- the log turns -/
theorem DiskQ.relog (h : DiskQ w B g N F k lg q) {lg' : Nat} (lv' : Value) (xs' : List Value) (hB : Blk w' g 96 (dcells { q with lv := lv', xs := xs' } N k)) (hl : w'.ownsRow B 106 258 lv' lg' xs') (hs : ∀ b, foot g N q b → b ≠ g → q.lv.ownBlock ≠ some b → w'.heap[b]? = w.heap[b]?) : DiskQ w' B g N F k lg' { q with lv := lv', xs := xs' } := by
  have hm := h.many
  obtain ⟨es, cl, hg, he⟩ := h.map
  refine ⟨h.gB, hB, h.nB, (hs _ (.inr (.inl rfl)) (blk_ne h.now h.cells (by decide)) (own_ne h.log h.now (by decide))).trans h.now, h.rB, ⟨es, cl, (hs _ (.inr (.inr (.inl rfl))) (map_blk hg h.cells) (own_map h.log hg)).trans hg, he⟩, h.keys, ⟨own_block h.steps.row fun b hb => hs b (.inr (.inr (.inr (.inl hb)))) (fun e => own_ne h.steps.row h.cells (by decide) (e ▸ hb)) (own_own h.steps.row h.log (by decide) hb), fun j hj => own_block (h.steps.each j hj) fun b hb => hs b (.inr (.inr (.inr (.inr (.inr (.inr ⟨j, (by have : j < q.G.length := hj; omega), hb⟩)))))) (fun e => own_ne (h.steps.each j hj) h.cells (by decide) (e ▸ hb)) (own_own (h.steps.each j hj) h.log (by decide) hb), h.steps.apart⟩, h.many, h.short, hl, own_block h.wear fun b hb => hs b (.inr (.inr (.inr (.inr (.inr (.inl hb)))))) (fun e => own_ne h.wear h.cells (by decide) (e ▸ hb)) (own_own h.wear h.log (by decide) hb), h.ints, h.apart⟩
/-- the blocks' bytes turn -/
theorem DiskQ.renow (h : DiskQ w B g N F k lg q) {F' : Nat → Nat} (hn : Blk w' q.gn 60 (va (N * 256) (iv .u8 F'))) (hs : ∀ b, b ≠ q.gn → w'.heap[b]? = w.heap[b]?) : DiskQ w' B g N F' k lg q := by
  have hm := h.many
  obtain ⟨es, cl, hg, he⟩ := h.map
  refine ⟨h.gB, (hs _ (blk_ne h.cells h.now (by decide))).trans h.cells, h.nB, hn, h.rB, ⟨es, cl, (hs _ (map_blk hg h.now)).trans hg, he⟩, h.keys, ⟨own_block h.steps.row fun b hb => hs b fun e => own_ne h.steps.row h.now (by decide) (e ▸ hb), fun j hj => own_block (h.steps.each j hj) fun b hb => hs b fun e => own_ne (h.steps.each j hj) h.now (by decide) (e ▸ hb), h.steps.apart⟩, h.many, h.short, own_block h.log fun b hb => hs b fun e => own_ne h.log h.now (by decide) (e ▸ hb), own_block h.wear fun b hb => hs b fun e => own_ne h.wear h.now (by decide) (e ▸ hb), h.ints, h.apart⟩
/-- the wear turns -/
theorem DiskQ.rewear (h : DiskQ w B g N F k lg q) {ys' : List Value} (hw : w'.ownsRow B 3 1 q.wv N ys') (hi : ∀ j, j < N → ∃ x : Int, ys'[j]? = some (.int .i64 x)) (hs : ∀ b, q.wv.ownBlock ≠ some b → w'.heap[b]? = w.heap[b]?) : DiskQ w' B g N F k lg { q with ys := ys' } := by
  have hm := h.many
  obtain ⟨es, cl, hg, he⟩ := h.map
  refine ⟨h.gB, (hs _ (own_ne h.wear h.cells (by decide))).trans h.cells, h.nB, (hs _ (own_ne h.wear h.now (by decide))).trans h.now, h.rB, ⟨es, cl, (hs _ (own_map h.wear hg)).trans hg, he⟩, h.keys, ⟨own_block h.steps.row fun b hb => hs b (own_own h.steps.row h.wear (by decide) hb), fun j hj => own_block (h.steps.each j hj) fun b hb => hs b (h.apart j (by have : j < q.G.length := hj; omega) b hb), h.steps.apart⟩, h.many, h.short, own_block h.log fun b hb => hs b (own_own h.log h.wear (by decide) hb), hw, hi, h.apart⟩
/-- the past turns -/
theorem DiskQ.repast (h : DiskQ w B g N F k lg q) {l' : List ((Int × Int) × Vector Nat 256)} {G' : List (List Nat)} {ss' : List Value} (hmap : MapIs momK bK w' q.r l') (hkeys : ∀ p ∈ l', p.1.1 ≤ (k : Int)) (hG : GrpAt w' B q.sv G' ss') (hlen : G'.length = N) (hsh : ∀ j, (G'.getD j []).length ≤ k)
    (hap : ∀ j, j < N → ∀ b, (ss'.getD j undef).ownBlock = some b → (∃ i, i < N ∧ (q.ss.getD i undef).ownBlock = some b) ∨ w.heap.size ≤ b)
    (hs : ∀ b, b < w.heap.size → b ≠ q.r → q.sv.ownBlock ≠ some b → (∀ j, j < N → (q.ss.getD j undef).ownBlock ≠ some b) → w'.heap[b]? = w.heap[b]?) : DiskQ w' B g N F k lg { q with l := l', G := G', ss := ss' } := by
  have hm := h.many
  obtain ⟨es, cl, hg, he⟩ := h.map
  have each : ∀ j, j < N → w.ownsRow B 3 1 (q.ss.getD j undef) (q.G.getD j []).length (intL (q.G.getD j [])) := fun j hj => h.steps.each j (by omega)
  refine ⟨h.gB, (hs _ h.cells.lt (map_blk hg h.cells).symm (own_ne h.steps.row h.cells (by decide)) fun j hj => own_ne (each j hj) h.cells (by decide)).trans h.cells, h.nB, (hs _ h.now.lt (map_blk hg h.now).symm (own_ne h.steps.row h.now (by decide)) fun j hj => own_ne (each j hj) h.now (by decide)).trans h.now, h.rB, hmap, hkeys, hG, hlen, hsh, own_block h.log fun b hb => hs b (h.log.lt b hb).2 (fun e => own_map h.log hg (e ▸ hb)) (own_own h.log h.steps.row (by decide) hb) fun j hj => own_own h.log (each j hj) (by decide) hb, own_block h.wear fun b hb => hs b (h.wear.lt b hb).2 (fun e => own_map h.wear hg (e ▸ hb)) (own_own h.wear h.steps.row (by decide) hb) fun j hj e => h.apart j hj b e hb, h.ints, fun j hj b hb e => ?_⟩
  rcases hap j hj b hb with ⟨i, hi, z⟩ | z
  · exact h.apart i hi b z e
  · have := (h.wear.lt b e).2
    omega
end
end Go.Proofs.Ytlmbokfgogkbmaa

namespace Go.Proofs.Ytlmbokfgogkbmaa
open Go Go.RowKit
set_option linter.unusedSimpArgs false
set_option linter.unusedVariables false

theorem dkbelow_drewN {B : Nat} {w w' : World} (h : Below B w w') (n : Nat) : Below B w (w'.drewN n) := h.trans (below_drewN (Below.refl _ _) n)
set_option maxHeartbeats 1000000 in
theorem dead_nil (w : World) : Calls Try.prog 23 #[.pointer none] w fun e w' => e = .returned (.bool true) ∧ w = w' := by
  go_enter Try.func23, Try.ntmps23
  go_wp2_with fail
  go_ret
  exact ⟨rfl, rfl⟩
set_option maxHeartbeats 1000000 in
theorem events_nil (w : World) : Calls Try.prog 22 #[.pointer none] w fun e w' => e = .returned (.int .i64 0) ∧ w = w' := by
  go_enter Try.func22, Try.ntmps22
  go_wp2_with fail
  go_ret
  exact ⟨rfl, rfl⟩
set_option maxHeartbeats 1000000 in
theorem cut_nil (e0 : Int) (f0 : Bool) (w : World) : Calls Try.prog 11 #[.pointer none, .agg #[.int .i64 e0, .bool f0]] w fun e w' => e = .returned (.tuple #[]) ∧ Below w.heap.size w w' := by
  go_enter Try.func11, Try.ntmps11
  go_wp2_with fail
  go_quiet (fail)
  go_wp2_with fail
  try simp only [Exit.inBlock, Exit.then]
  refine bodyPost_ret (results_none Try.results11 _ _ _) rfl ?_
  exact ⟨rfl, dkbelow_drewN (below_new1 _ _) _⟩
set_option maxHeartbeats 1000000 in
theorem revive_nil (w : World) : Calls Try.prog 18 #[.pointer none] w fun e w' => e = .returned (.tuple #[]) ∧ Below w.heap.size w w' := by
  go_enter Try.func18, Try.ntmps18
  go_wp2_with fail
  try simp only [Exit.inBlock, Exit.then]
  refine bodyPost_end (results_none Try.results18 _ _ _) rfl ?_
  exact ⟨rfl, Below.refl _ _⟩
set_option maxHeartbeats 1000000 in
theorem event_nil (w : World) : Calls Try.prog 39 #[.pointer none] w fun e w' => e = .returned (.tuple #[.bool false, .int .i64 4]) ∧ w = w' := by
  have hD : Hid (∀ w : World, Calls Try.prog 23 #[.pointer none] w fun e w' => e = .returned (.bool true) ∧ w = w') := dead_nil
  go_enter Try.func39, Try.ntmps39
  go_wp2_with fail
  refine (hD.out _).mono ?_
  rintro e _ ⟨rfl, rfl⟩
  go_wp2_with fail
  try simp only [Exit.inBlock, Exit.then]
  refine bodyPost_ret (results_tmp2 Try.results39 _ _ _) rfl ?_
  exact ⟨rfl, rfl⟩
set_option maxHeartbeats 1000000 in
theorem begin_nil (at0 : Int) (w : World) : Calls Try.prog 40 #[.pointer none, .int .i64 at0] w fun e w' => e = .returned (.int .i64 4) ∧ w = w' := by
  have hD : Hid (∀ w : World, Calls Try.prog 23 #[.pointer none] w fun e w' => e = .returned (.bool true) ∧ w = w') := dead_nil
  go_enter Try.func40, Try.ntmps40
  go_wp2_with fail
  refine (hD.out _).mono ?_
  rintro e _ ⟨rfl, rfl⟩
  go_wp2_with fail
  go_ret
  exact ⟨rfl, rfl⟩
set_option maxRecDepth 100000 in
set_option maxHeartbeats 2000000 in
theorem read_nil (at0 : Int) (w : World) : Calls Try.prog 20 #[.pointer none, .int .i64 at0] w fun e w' => e = .returned (.tuple #[.agg (va 256 (iv .u8 fun _ => 0)), .int .i64 4]) ∧ Below w.heap.size w w' := by
  have hB : Hid (∀ w : World, Calls Try.prog 40 #[.pointer none, .int .i64 at0] w fun e w' => e = .returned (.int .i64 4) ∧ w = w') := begin_nil at0
  have hz := zero_bk
  have r0 : Blk (w.alloc (.cells (va 256 (iv .u8 fun _ => 0)) 60)) w.heap.size 60 (va 256 (iv .u8 fun _ => 0)) := Blk.new _ _ _
  go_enter Try.func20, Try.ntmps20
  go_wp2_with fail
  refine (hB.out _).mono ?_
  rintro e _ ⟨rfl, rfl⟩
  go_wp2_with (first
    | (refine wpList_store_row (by rfl) 60 _ _ (by rfl) (w.heap.size) (va 256 (iv .u8 (fun _ => 0))) (by rfl) (by rfl) 60 _ r0 (sizeBk.trans (by rw [va_size])) (by simp only [va_size]) (iv_one _ _ _) ?_; simp only [Act.put, List.setIfInBounds_toArray, List.set_cons_zero, List.set_cons_succ])
    | fail)
  try simp only [Exit.inBlock, Exit.then]
  refine bodyPost_ret (results_row2 Try.results20 _ _ (w.heap.size) 60 (va 256 (iv .u8 (fun _ => 0))) (0, 0) _ rfl ((r0.set _)) Try.underlying60 rfl (sizeBk.trans (by rw [va_size]))) rfl ?_
  exact ⟨rfl, below_setRow (below_new1 _ _) (Nat.le_refl _) _⟩
set_option maxRecDepth 100000 in
set_option maxHeartbeats 2000000 in
theorem diskWrite_nil (at0 : Int) (f : Nat → Nat) (w : World) : Calls Try.prog 17 #[.pointer none, .int .i64 at0, .agg (va 256 (iv .u8 f))] w fun e w' => e = .returned (.int .i64 4) ∧ Below w.heap.size w w' := by
  have hB : Hid (∀ w : World, Calls Try.prog 40 #[.pointer none, .int .i64 at0] w fun e w' => e = .returned (.int .i64 4) ∧ w = w') := begin_nil at0
  have hz := zero_bk
  go_enter Try.func17, Try.ntmps17
  go_wp2_with fail
  refine (hB.out _).mono ?_
  rintro e _ ⟨rfl, rfl⟩
  go_wp2_with fail
  go_ret
  exact ⟨rfl, below_new1 _ _⟩
end Go.Proofs.Ytlmbokfgogkbmaa

namespace Go.Proofs.Ytlmbokfgogkbmaa
open Go Go.RowKit
set_option linter.unusedSimpArgs false
set_option linter.unusedVariables false

theorem zero_steps (w : World) : (zeroValue 112).run Try.prog w = .ok (.slice none 0 0) w := by
  have h : (Try.prog.info? 112).bind (·.zero) = some (.slice none 0 0) := by kernel_rfl
  cases hq : Try.prog.info? 112 with
  | none => simp [hq] at h
  | some i =>
    have hi : i.zero = some (.slice none 0 0) := by simpa [hq] using h
    simp [zeroValue, typeInfo, hq, hi]
theorem chk_int (e : Bool) (x : Int) (w : World) : (Instr.checkKey e 10000 3 (.int .i64 x)).run Try.prog w = .ok () w := by
  rw [show (10000 : Nat) = 9999 + 1 from rfl, Instr.checkKey]
  simp [run_underlying Try.underlying3]
theorem lookup_planless (x : Int) (w : World) : (Instr.lookup 93 (.map none) (.int .i64 x) false).run Try.prog w = .ok (.slice none 0 0) w := by
  simp [Instr.lookup, run_underlying Try.underlying93, chk_int, zero_steps, Instr.findKey, run_underlying Try.underlying3, Instr.findNow]
theorem delete_planless (x : Int) (ty : TypeId) (w : World) : (Builtin.delete_ #[93, 3] ty #[.map none, .int .i64 x]).run Try.prog w = .ok (.tuple #[]) w := by
  simp [Builtin.delete_, run_underlying Try.underlying93, chk_int]

section
variable {w : World} {B g N k lg : Nat} {F : Nat → Nat} {q : QD}
theorem DiskQ.c (h : DiskQ w B g N F k lg q) (i : Nat) : w.cell? ⟨g, i, none⟩ = (dcells q N k)[i]? := h.cells.cell i
set_option maxHeartbeats 1000000 in
theorem dead_q (hd : q.dd = false) (w : World) (h : DiskQ w B g N F k lg q) : Calls Try.prog 23 #[.pointer (some ⟨g, 0, none⟩)] w fun e w' => e = .returned (.bool false) ∧ w = w' := by
  have c5 : w.cell? ⟨g, 5, none⟩ = some (.bool false) := by rw [h.c]; show some (Value.bool q.dd) = _; rw [hd]
  clear h
  go_enter Try.func23, Try.ntmps23
  go_wp2_with fail
  go_ret
  exact ⟨rfl, rfl⟩
set_option maxHeartbeats 1000000 in
theorem has_q (at0 : Nat) (hat : at0 < N) (w : World) (h : DiskQ w B g N F k lg q) : Calls Try.prog 46 #[.pointer (some ⟨g, 0, none⟩), .int .i64 (at0 : Int)] w fun e w' => e = .returned (.bool true) ∧ w = w' := by
  have c0 : w.cell? ⟨g, 0, none⟩ = some (.slice (some ⟨q.gn, 0, none⟩) N N) := by rw [h.c]; rfl
  have h0 : (0 : Int) ≤ (at0 : Int) := by omega
  have h1 : (at0 : Int) < (N : Int) := by omega
  clear h hat
  go_enter Try.func46, Try.ntmps46
  go_wp2_with fail
  go_ret
  exact ⟨rfl, rfl⟩
set_option maxRecDepth 100000 in
set_option maxHeartbeats 4000000 in
theorem begin_q (hd : q.dd = false) (hp : q.pl = .map none) (at0 : Nat) (hat : at0 < N) (hk : k < 4611686018427387904) (w : World) (h : DiskQ w B g N F k lg q) :
    Calls Try.prog 40 #[.pointer (some ⟨g, 0, none⟩), .int .i64 (at0 : Int)] w fun e w' => e = .returned (.int .i64 0) ∧ DiskQ w' B g N F (k + 1) lg q ∧ Moved g N q q w w' := by
  have hD : Hid (∀ w : World, DiskQ w B g N F k lg q → Calls Try.prog 23 #[.pointer (some ⟨g, 0, none⟩)] w fun e w' => e = .returned (.bool false) ∧ w = w') := fun w h => dead_q hd w h
  have hH : Hid (∀ w : World, DiskQ w B g N F k lg q → Calls Try.prog 46 #[.pointer (some ⟨g, 0, none⟩), .int .i64 (at0 : Int)] w fun e w' => e = .returned (.bool true) ∧ w = w') := fun w h => has_q at0 hat w h
  have c3 : w.cell? ⟨g, 2, none⟩ = some q.sv := by rw [h.c]; rfl
  have c4 : w.cell? ⟨g, 3, none⟩ = some (.map none) := by rw [h.c]; show some q.pl = _; rw [hp]
  have c6 : w.cell? ⟨g, 6, none⟩ = some (.int .i64 (k : Int)) := by rw [h.c]; rfl
  have f6 : w.frozen? ⟨g, 6, none⟩ = false := h.cells.frozen 6
  have HQ : Hid (DiskQ w B g N F k lg q) := h
  clear h hd hp hat
  have hlk := lookup_planless (k : Int)
  have hdl := delete_planless (k : Int)
  go_enter Try.func40, Try.ntmps40
  go_wp2_with fail
  refine (hD.out _ HQ.out).mono ?_
  rintro e _ ⟨rfl, rfl⟩
  go_wp2_with fail
  refine (hH.out _ HQ.out).mono ?_
  rintro e _ ⟨rfl, rfl⟩
  go_wp2_with fail
  go_quiet (fail)
  go_wp2_with fail
  go_loopw [23] (fun t wr => t = .int .i64 0 ∧ ∃ n, wr = w.drewN n) (fun _ _ => 0)
  case atStart => exact ⟨rfl, _, rfl⟩
  case round =>
    obtain ⟨rfl, n, rfl⟩ := hrel
    have HQ1 : Hid (DiskQ (w.drewN n) B g N F k lg q) := HQ.out.below (dkbelow_drewN (Below.refl _ _) _)
    have HM1 : Hid (Moved g N q q w (w.drewN n)) := .of_below (dkbelow_drewN (Below.refl _ _) _)
    generalize w.drewN n = w1 at *
    have e4 : w1.cell? ⟨g, 3, none⟩ = some (.map none) := by rw [HQ1.out.c, ← HQ.out.c]; exact c4
    have e6 : w1.cell? ⟨g, 6, none⟩ = some (.int .i64 (k : Int)) := by rw [HQ1.out.c]; rfl
    have e6f : w1.frozen? ⟨g, 6, none⟩ = false := HQ1.out.cells.frozen 6
    have e4B : ∀ W, Below w1.heap.size w1 W → W.cell? ⟨g, 3, none⟩ = some (.map none) := fun W hW => by
      have := (HQ1.out.below hW).c 3
      rw [this, ← HQ.out.c]
      exact c4
    go_wp2_with fail
    refine wp_region_partsI [] [([0, 4], 1, true), ([], 2, true), ([], 3, true), ([], 5, false), ([], 6, false), ([], 7, false), ([], 8, false)] [] [] (w1.heap.size) (by kernel_rfl) (by kernel_rfl) (fun _ hx => nomatch hx) (partsI_yield ?_)
    simp only [List.cons_append, List.nil_append, List.append_nil, List.filterMap_cons, List.filterMap_nil, List.getElem?_toArray, List.getElem?_cons_zero, List.getElem?_cons_succ]
    have hS : Below (w1.heap.size) w1 w1.drew := (Below.refl _ _).drew
    go_wp2_with fail
    refine ⟨rfl, _, .pointer (some ⟨g, 0, none⟩), rfl, Or.inl ⟨by rfl, fun W hW => by go_simp⟩, partsI_yield ?_⟩
    simp only [Act.put, List.setIfInBounds_toArray, List.set_cons_zero, List.set_cons_succ]
    simp only [List.cons_append, List.nil_append, List.append_nil, List.filterMap_cons, List.filterMap_nil, List.getElem?_toArray, List.getElem?_cons_zero, List.getElem?_cons_succ]
    go_wp2_with fail
    refine ⟨rfl, _, .pointer (some ⟨g, 3, none⟩), rfl, Or.inl ⟨by rfl, fun W hW => by go_simp⟩, partsI_yield ?_⟩
    simp only [Act.put, List.setIfInBounds_toArray, List.set_cons_zero, List.set_cons_succ]
    simp only [List.cons_append, List.nil_append, List.append_nil, List.filterMap_cons, List.filterMap_nil, List.getElem?_toArray, List.getElem?_cons_zero, List.getElem?_cons_succ]
    go_wp2_with fail
    refine ⟨rfl, _, .map none, rfl, Or.inl ⟨by rfl, fun W hW => by have e4W : W.cell? ⟨g, 3, none⟩ = some (.map none) := (e4B W hW); go_simp⟩, partsI_force ?_⟩
    simp only [Act.put, List.setIfInBounds_toArray, List.set_cons_zero, List.set_cons_succ]
    simp only [List.cons_append, List.nil_append, List.append_nil, List.filterMap_cons, List.filterMap_nil, List.getElem?_toArray, List.getElem?_cons_zero, List.getElem?_cons_succ]
    go_wp2_with fail
    refine ⟨rfl, hS, partsI_force ?_⟩
    simp only [List.cons_append, List.nil_append, List.append_nil, List.filterMap_cons, List.filterMap_nil, List.getElem?_toArray, List.getElem?_cons_zero, List.getElem?_cons_succ]
    go_wp2_with fail
    refine ⟨rfl, hS, partsI_force ?_⟩
    simp only [List.cons_append, List.nil_append, List.append_nil, List.filterMap_cons, List.filterMap_nil, List.getElem?_toArray, List.getElem?_cons_zero, List.getElem?_cons_succ]
    go_wp2_with fail
    refine ⟨rfl, hS, partsI_force ?_⟩
    simp only [List.cons_append, List.nil_append, List.append_nil, List.filterMap_cons, List.filterMap_nil, List.getElem?_toArray, List.getElem?_cons_zero, List.getElem?_cons_succ]
    go_wp2_with fail
    refine ⟨rfl, hS, partsI_last ?_⟩
    simp only [List.cons_append, List.nil_append, List.append_nil, List.filterMap_cons, List.filterMap_nil, List.getElem?_toArray, List.getElem?_cons_zero, List.getElem?_cons_succ]
    go_wp2_with fail
    refine ⟨rfl, ?_⟩
    go_wp2_with fail
    go_ret
    have hB : Blk (w1.drew.setCell ⟨g, 6, none⟩ (.int .i64 ((k + 1 : Nat) : Int))) g 96 (dcells q N (k + 1)) := HQ1.out.cells.drew.put 6 (.int .i64 ((k + 1 : Nat) : Int))
    refine ⟨rfl, HQ1.out.put (Nat.le_succ _) q.ev hB fun b hb => Deep.blk_setCell_other w1.drew ⟨g, 6, none⟩ _ b hb, HM1.out.trans ⟨⟨rfl, rfl, rfl, by show w1.heap.size ≤ (w1.setCell _ _).heap.size; rw [Deep.nblk_setCell]; exact Nat.le_refl _, fun b hb hf => Deep.blk_setCell_other w1.drew ⟨g, 6, none⟩ _ b fun e => hf (.inl e)⟩, fun b hb => .inl hb⟩⟩
set_option maxHeartbeats 2000000 in
theorem index_none (e0 : Int) (f0 : Bool) (w : World) : Calls Try.prog 51 #[.slice none 0 0, .agg #[.int .i64 e0, .bool f0]] w fun e w' => e = .returned (.int .i64 (-1)) ∧ Below w.heap.size w w' := by
  go_enter Try.func51, Try.ntmps51
  go_wp2_with fail
  have hb : Below w.heap.size w (w.alloc (.cells #[.int .i64 e0, .bool f0] 41)) := below_new1 _ _
  go_loopw [8] (fun t wr => t = .int .i64 0 ∧ wr = w.alloc (.cells #[.int .i64 e0, .bool f0] 41)) (fun _ _ => 0)
  case atStart => exact ⟨rfl, rfl⟩
  case round =>
    obtain ⟨rfl, rfl⟩ := hrel
    go_wp2_with fail
    go_ret
    exact ⟨rfl, hb⟩
set_option maxHeartbeats 2000000 in
theorem contains_none (e0 : Int) (f0 : Bool) (w : World) : Calls Try.prog 48 #[.slice none 0 0, .agg #[.int .i64 e0, .bool f0]] w fun e w' => e = .returned (.bool false) ∧ Below w.heap.size w w' := by
  have hI : Hid (∀ w : World, Calls Try.prog 51 #[.slice none 0 0, .agg #[.int .i64 e0, .bool f0]] w fun e w' => e = .returned (.int .i64 (-1)) ∧ Below w.heap.size w w') := index_none e0 f0
  have hb : Below w.heap.size w (w.alloc (.cells #[.int .i64 e0, .bool f0] 41)) := below_new1 _ _
  go_enter Try.func48, Try.ntmps48
  go_wp2_with fail
  refine (hI.out _).mono ?_
  rintro e w1 ⟨rfl, hb1⟩
  go_wp2_with fail
  go_ret
  exact ⟨rfl, hb.trans (hb1.mono hb.size)⟩
set_option maxRecDepth 100000 in
set_option maxHeartbeats 4000000 in
theorem next_q (hc : q.cu = .slice none 0 0) (hev : 0 ≤ q.ev ∧ q.ev < 4611686018427387904) (w : World) (h : DiskQ w B g N F k lg q) :
    Calls Try.prog 41 #[.pointer (some ⟨g, 0, none⟩)] w fun e w' => e = .returned (.tuple #[.bool true, .int .i64 0]) ∧ DiskQ w' B g N F k lg { q with ev := q.ev + 1 } ∧ Moved g N q { q with ev := q.ev + 1 } w w' := by
  have hI : Hid (∀ (e0 : Int) (f0 : Bool) (w : World), Calls Try.prog 48 #[.slice none 0 0, .agg #[.int .i64 e0, .bool f0]] w fun e w' => e = .returned (.bool false) ∧ Below w.heap.size w w') := contains_none
  have c7 : w.cell? ⟨g, 7, none⟩ = some (.int .i64 q.ev) := by rw [h.c]; rfl
  have f7 : w.frozen? ⟨g, 7, none⟩ = false := h.cells.frozen 7
  obtain ⟨E, hE⟩ : ∃ E, E = q.ev := ⟨_, rfl⟩
  have hB : Blk (w.setCell ⟨g, 7, none⟩ (.int .i64 (q.ev + 1))) g 96 (dcells { q with ev := q.ev + 1 } N k) := h.cells.put 7 _
  have HQ1 : Hid (DiskQ (w.setCell ⟨g, 7, none⟩ (.int .i64 (q.ev + 1))) B g N F k lg { q with ev := q.ev + 1 }) := h.put (Nat.le_refl _) _ hB fun b hb => Deep.blk_setCell_other w ⟨g, 7, none⟩ _ b hb
  have HM1 : Hid (Moved g N q { q with ev := q.ev + 1 } w (w.setCell ⟨g, 7, none⟩ (.int .i64 (q.ev + 1)))) := ⟨⟨rfl, rfl, rfl, by rw [Deep.nblk_setCell]; exact Nat.le_refl _, fun b hb hf => Deep.blk_setCell_other w ⟨g, 7, none⟩ _ b fun e => hf (.inl e)⟩, fun b hb => .inl hb⟩
  have HC : Hid (∀ W, DiskQ W B g N F k lg { q with ev := q.ev + 1 } → W.cell? ⟨g, 4, none⟩ = some (.slice none 0 0)) := fun W hW => by
    rw [hW.c]
    show some q.cu = _
    rw [hc]
  have d4 := HC.out _ HQ1.out
  clear hB h hc
  rw [← hE] at c7 hev HQ1 HM1 HC d4 ⊢
  generalize ({ q with ev := E + 1 } : QD) = q' at *
  clear hE
  go_enter Try.func41, Try.ntmps41
  go_wp2_with fail
  generalize w.setCell ⟨g, 7, none⟩ (.int .i64 (E + 1)) = w1 at *
  refine (hI.out _ _ _).mono ?_
  rintro e w2 ⟨rfl, hb2⟩
  have HQ2 : Hid (DiskQ w2 B g N F k lg q') := HQ1.out.below hb2
  have HM2 : Hid (Moved g N q q' w w2) := HM1.out.trans (.of_below hb2)
  have d5 := HC.out _ HQ2.out
  clear hb2
  go_wp2_with fail
  refine (hI.out _ _ _).mono ?_
  rintro e w3 ⟨rfl, hb3⟩
  go_wp2_with fail
  try simp only [Exit.inBlock, Exit.then]
  refine bodyPost_ret (results_tmp2 Try.results41 _ _ _) rfl ?_
  exact ⟨rfl, HQ2.out.below hb3, HM2.out.trans (.of_below hb3)⟩
end
end Go.Proofs.Ytlmbokfgogkbmaa

namespace Go.Proofs.Ytlmbokfgogkbmaa
open Go Go.RowKit

section
variable {P : Program} {ops : Array Oper} {Q : Exit → Act → World → Prop} {md : Region.Mode} {Wl : List Nat} {S : World → Prop}

theorem takeS_gen {i fuel : Nat} {o : Oper} {v : Value} {listed : Array Bool} {a : Act} {w : World} (hs : Region.noSelect ops = true) (hi : ops[i]? = some o) (hr : (Region.ready md ops listed).contains i = true)
    (hf : Region.free md ops listed i = true) (hWi : Wl.contains i = false) (hwait : waitW md ops listed i Wl (waitArr md ops listed i) = true) (hy : YieldsIf P ops S o v a) (hS : S w)
    (hK : wpAnyW P md ops (Strict Q) S (Wl.contains ·) fuel (listed.setIfInBounds i true) (a.put o.dst v) w) :
    wpAnyW P md ops (Strict Q) S (Wl.contains ·) (fuel + 1) listed a w := by
  generalize hwt : waitArr md ops listed i = arr at hwait
  unfold waitW at hwait
  rw [List.all_eq_true] at hwait
  have hall : ∀ j oj, ops[j]? = some oj → (if arr.getD j false then (j == i || oj.after.any fun e => Region.binds md e && arr.getD e.on false && decide (e.on < ops.size)) && !listed.getD j true else !Wl.contains j) = true := fun j oj hj => by
    have h1 := hwait j (List.mem_range.2 (Array.getElem?_eq_some_iff.1 hj).1)
    rw [hj] at h1; exact h1
  have hin : ∀ j, decide (j < ops.size) = true → ∃ oj, ops[j]? = some oj := fun j hj => ⟨_, Array.getElem?_eq_getElem (of_decide_eq_true hj)⟩
  refine wpAnyW_take hi (Region.noSelect_spec hs) (fun j => arr.getD j false && decide (j < ops.size)) (v := v) (strict_frame _ _) ?_ ?_ hWi fuel listed a w (Region.free_spec hi hf) ?_ (by simpa using hr) hy hS hK
  · intro j oj hj hw hne
    simp only [Bool.and_eq_true] at hw
    have h1 := hall j oj hj
    rw [if_pos hw.1] at h1
    simp only [Bool.and_eq_true, Bool.or_eq_true, beq_iff_eq, hne, false_or] at h1
    obtain ⟨e, he, hb⟩ := Array.any_eq_true'.1 h1.1
    simp only [Bool.and_eq_true] at hb
    exact ⟨e, he, hb.1.1, by simp only [Bool.and_eq_true]; exact ⟨hb.1.2, hb.2⟩⟩
  · intro j oj hj hw
    have hlt : decide (j < ops.size) = true := decide_eq_true (Array.getElem?_eq_some_iff.1 hj).1
    have h1 := hall j oj hj
    cases hq : arr.getD j false with
    | true => rw [hlt]; rfl
    | false => rw [if_neg (by rw [hq]; decide), hw] at h1; cases h1
  · intro j hw
    simp only [Bool.and_eq_true] at hw
    obtain ⟨oj, hj⟩ := hin j hw.2
    have h1 := hall j oj hj
    rw [if_pos hw.1] at h1
    simp only [Bool.and_eq_true, Bool.not_eq_true'] at h1
    exact h1.2

theorem forceS_step {i fuel : Nat} {listed : Array Bool} {a : Act} {w : World} (hb : forceW md ops listed i = true)
    (h : wpOp P ops (Strict Q) i (fun a' w' => (Wl.contains i = false → S w') ∧ wpAnyW P md ops (Strict Q) S (Wl.contains ·) fuel (listed.setIfInBounds i true) a' w') a w) :
    wpAnyW P md ops (Strict Q) S (Wl.contains ·) (fuel + 1) listed a w := by
  unfold forceW at hb
  simp only [Bool.and_eq_true, beq_iff_eq] at hb
  refine ⟨fun h0 => absurd (hb.1.symm.trans h0) (by simp), ?_⟩
  rw [hb.1]
  intro j hj
  have : j = i := by simpa using hj
  subst this; exact h

theorem takeS_step {i fuel : Nat} {listed : Array Bool} {a : Act} {w : World} (hs : Region.noSelect ops = true) (hb : takeW md ops listed Wl [] i = true) (hS : S w)
    (h : wpOp P ops (Strict Q) i (fun a' w' => S w' → wpAnyW P md ops (Strict Q) S (Wl.contains ·) fuel (listed.setIfInBounds i true) a' w') a w) :
    wpAnyW P md ops (Strict Q) S (Wl.contains ·) (fuel + 1) listed a w := by
  unfold takeW at hb
  cases hi : ops[i]? with
  | none => rw [hi] at hb; cases hb
  | some o =>
    rw [hi] at hb
    simp only [Bool.and_eq_true, Bool.or_eq_true, Bool.not_eq_true'] at hb
    obtain ⟨⟨⟨⟨hr, hf⟩, hWi⟩, hk⟩, hwait⟩ := hb
    have key : ∃ v, wpAnyW P md ops (Strict Q) S (Wl.contains ·) fuel (listed.setIfInBounds i true) (a.put o.dst v) w ∧ YieldsIf P ops S o v a := by
      unfold wpOp at h
      simp only [hi] at h
      by_cases hw : Region.wanted o (yielded ops a.tmps) = true
      · simp only [hw, if_true] at h
        rcases h with h | ⟨_, h⟩
        · unfold Oper.wp at h
          have hrun : ∃ v, (execOp a.eval o).run P w = .ok (.value v) w ∧ ∀ w', S w' → (execOp a.eval o).run P w' = .ok (.value v) w' := by
            cases hsr : (execOp a.eval o).run P w with
            | ok n w1 =>
              rcases hk with hk | hk
              · obtain ⟨hp, hv⟩ := kindV_run (P := P) hk a.eval
                obtain ⟨v, rfl⟩ := hv _ _ _ hsr
                obtain ⟨rfl, h2⟩ := hp _ _ _ hsr
                exact ⟨v, rfl, fun w' _ => h2 w'⟩
              · obtain ⟨t, x, hop, hx⟩ := lowLoad_run hk
                cases hx
            | halt y w1 =>
              rw [hsr] at h
              cases y <;> simp only [Oper.upon, Strict] at h <;> first | exact absurd h.1 (by intro e; cases e) | exact h.elim
          obtain ⟨v, h1, h2⟩ := hrun
          rw [h1, Oper.upon_value] at h
          exact ⟨v, h hS, .inl ⟨hw, h2⟩⟩
        · exact absurd h Strict.noOut
      · rw [Bool.not_eq_true] at hw
        simp only [hw, Bool.false_eq_true, if_false] at h
        exact ⟨undef, h hS, .inr ⟨hw, rfl⟩⟩
    obtain ⟨v, hK, hy⟩ := key
    exact takeS_gen hs hi hr hf hWi hwait hy hS hK

theorem takesS_step (hs : Region.noSelect ops = true) (more : List Nat) (fuel : Nat) (Q' : Exit → Act → World → Prop) :
    ∀ (ts : List Nat) (listed l2 : Array Bool) (a : Act) (w : World), takesB md ops Wl [] ts listed = some l2 →
      (∀ a' w', S w' → wpList P ops (Strict Q') (more.filterMap fun i => ops[i]?) a' w' → wpAnyW P md ops (Strict Q) S (Wl.contains ·) fuel l2 a' w') →
      S w → wpList P ops (Strict Q') ((ts ++ more).filterMap fun i => ops[i]?) a w →
      wpAnyW P md ops (Strict Q) S (Wl.contains ·) (ts.length + fuel) listed a w := by
  intro ts
  induction ts with
  | nil =>
    intro listed l2 a w hb hn hS h
    simp only [takesB, Option.some.injEq] at hb
    subst hb
    rw [List.length_nil, Nat.zero_add]
    exact hn a w hS h
  | cons i rest ih =>
    intro listed l2 a w hb hn hS h
    unfold takesB at hb
    split at hb
    · rename_i hc
      have hlen : (i :: rest).length + fuel = (rest.length + fuel) + 1 := by simp only [List.length_cons]; omega
      rw [hlen]
      obtain ⟨o, ho⟩ := has_op hc
      refine takeS_step hs hc hS (wpOp_mono (fun a' w' h' h2 => ?_) (wpOp_strict (wpList_one ho h)))
      exact ih _ l2 a' w' hb hn h2 h'
    · cases hb

theorem tailS_step : ∀ (ts : List Nat) (listed : Array Bool) (a : Act) (w : World), tailB md ops Wl ts listed = true → wpList P ops (Strict Q) (ts.filterMap fun i => ops[i]?) a w →
    wpAnyW P md ops (Strict Q) S (Wl.contains ·) ts.length listed a w
  | [], listed, a, w, hb, h => ⟨by simpa [tailB] using hb, h⟩
  | i :: rest, listed, a, w, hb, h => by
    simp only [tailB, Bool.and_eq_true] at hb
    obtain ⟨o, ho⟩ := has_op' hb.1.1
    refine forceS_step hb.1.1 (wpOp_mono (fun a' w' h' => ?_) (wpList_one ho h))
    exact ⟨fun e => (by rw [hb.1.2] at e; cases e), tailS_step rest _ a' w' hb.2 h'⟩

theorem partsS_step (hs : Region.noSelect ops = true) (takes tail : List Nat) :
    ∀ (ps : List (List Nat × Nat × Bool)) (listed : Array Bool) (a : Act) (w : World), partsB md ops Wl [] ps takes tail listed = true → S w →
      wpPartsI P ops Q S ps (takes ++ tail) a w → wpAnyW P md ops (Strict Q) S (Wl.contains ·) (lenOf ps (takes.length + tail.length)) listed a w
  | [], listed, a, w, hb, hS, h => by
    unfold partsB at hb
    split at hb
    · rename_i l2 hl2
      exact takesS_step hs tail tail.length Q takes listed l2 a w hl2 (fun a' w' _ h' => tailS_step tail l2 a' w' hb h') hS h
    · cases hb
  | (ts, i, false) :: rest, listed, a, w, hb, hS, h => by
    unfold partsB at hb
    split at hb
    · rename_i l2 hl2
      simp only [Bool.and_eq_true, Bool.not_eq_true', Bool.false_eq_true, if_false] at hb
      refine takesS_step hs [i] _ _ ts listed l2 a w hl2 (fun a' w' _ h' => ?_) hS h
      obtain ⟨o, ho⟩ := has_op' hb.1.1
      rw [Nat.add_comm 1]
      refine forceS_step hb.1.1 (wpOp_mono (fun a2 w2 h2 => ?_) (wpOp_strict (wpList_one ho h')))
      have h3 := h2.2
      exact ⟨fun _ => h3.1, partsS_step hs takes tail rest _ a2 w2 hb.2 h3.1 h3.2⟩
    · cases hb
  | (ts, i, true) :: rest, listed, a, w, hb, hS, h => by
    unfold partsB at hb
    split at hb
    · rename_i l2 hl2
      simp only [Bool.and_eq_true, if_true] at hb
      refine takesS_step hs [] _ _ ts listed l2 a w hl2 (fun a' w' hS' h' => ?_) hS h
      obtain ⟨-, o, v, ho, hy, hn⟩ := h'
      have hc := hb.1
      unfold yieldW at hc
      rw [ho] at hc
      simp only [Bool.and_eq_true, Bool.not_eq_true'] at hc
      rw [Nat.add_comm 1]
      exact takeS_gen hs ho hc.1.1.1 hc.1.1.2 hc.1.2 hc.2 hy hS' (partsS_step hs takes tail rest _ _ w' hb.2 hS' hn)
    · cases hb

/-- THE LAW. -/
theorem wp_region_partsS {id : Nat} {a : Act} {w : World} (S : World → Prop) (ps : List (List Nat × Nat × Bool)) (takes tail : List Nat) (hm : P.follows .mixedOrders = true) (hB : wholeB ops tail [] ps takes tail = true)
    (hS : S w.drew) (h : wpPartsI P ops Q S ps (takes ++ tail) a w.drew) : (Code.region id ops true).wp P Q a w := by
  unfold wholeB at hB
  simp only [Bool.and_eq_true, beq_iff_eq] at hB
  refine Code.wp_mono Strict.imp (wp_region_any hm ?_)
  rw [← hB.1.1.1]
  exact wpAny_of_W _ _ _ _ (partsS_step hB.1.1.2 takes tail ps _ a _ (by rw [hB.1.1.1]; exact hB.2) hS h)
end
end Go.Proofs.Ytlmbokfgogkbmaa
