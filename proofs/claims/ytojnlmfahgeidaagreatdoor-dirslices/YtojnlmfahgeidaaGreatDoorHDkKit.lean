/- A disk in the memory, told by its blocks' bytes and its counts: what belongs to it, and what leaves it alone. No condition beyond those that each fact states. -/
import Derived.Test.YtojnlmfahgeidaaGreatDoorHBlkGroups
import Derived.Deep.MidRow
import Derived.Handy

namespace Go.Proofs.YtojnlmfahgeidaaGreatDoor
open Go Go.RowKit
set_option linter.unusedSimpArgs false
set_option linter.unusedVariables false

/-- a raw step and a block, as a key -/
def momK (a : Int × Int) : Value := .agg #[.int .i64 a.1, .int .i64 a.2]
/-- what a disk has in the memory -/
structure QD where
  gn : Nat
  r : Nat
  sv : Value
  pl : Value
  cu : Value
  dd : Bool
  ev : Int
  lv : Value
  wv : Value
  l : List ((Int × Int) × Vector Nat 256)
  G : List (List Nat)
  ss : List Value
  xs : List Value
  ys : List Value
def dcells (q : QD) (N k : Nat) : Array Value := #[.slice (some ⟨q.gn, 0, none⟩) N N, .map (some q.r), q.sv, q.pl, q.cu, .bool q.dd, .int .i64 (k : Int), .int .i64 q.ev, q.lv, q.wv]
/-- a disk of N blocks in block g: the bytes F, k raw steps, lg entries of the log -/
structure DiskQ (w : World) (B g N : Nat) (F : Nat → Nat) (k lg : Nat) (q : QD) : Prop where
  gB : B ≤ g
  cells : Blk w g 198 (dcells q N k)
  nB : B ≤ q.gn
  now : Blk w q.gn 237 (va (N * 256) (iv .u8 F))
  rB : B ≤ q.r
  map : MapIs momK bK w q.r q.l
  keys : ∀ p ∈ q.l, p.1.1 ≤ (k : Int)
  steps : GrpAt w B q.sv q.G q.ss
  many : q.G.length = N
  short : ∀ j, (q.G.getD j []).length ≤ k + 1
  log : w.ownsRow B 414 258 q.lv lg q.xs
  wear : w.ownsRow B 3 1 q.wv N q.ys
  ints : ∀ j, j < N → ∃ x : Int, q.ys[j]? = some (.int .i64 x)
  apart : ∀ j, j < N → ∀ b, (q.ss.getD j undef).ownBlock = some b → q.wv.ownBlock ≠ some b
/-- its blocks in the memory -/
def foot (g N : Nat) (q : QD) (b : Nat) : Prop := b = g ∨ b = q.gn ∨ b = q.r ∨ q.sv.ownBlock = some b ∨ q.lv.ownBlock = some b ∨ q.wv.ownBlock = some b ∨ ∃ j, j < N ∧ (q.ss.getD j undef).ownBlock = some b
/-- only blocks of S turn -/
structure Turns (S : Nat → Prop) (w w' : World) : Prop where
  os : w'.os = w.os
  tape : w'.tape = w.tape
  output : w'.output = w.output
  size : w.heap.size ≤ w'.heap.size
  block : ∀ b, b < w.heap.size → ¬ S b → w'.heap[b]? = w.heap[b]?
theorem Turns.of_below {S : Nat → Prop} {w w' : World} (h : Below w.heap.size w w') : Turns S w w' := ⟨h.os, h.tape, h.output, h.size, fun b hb _ => h.block b hb⟩
theorem Turns.below {S : Nat → Prop} {w w' : World} {B : Nat} (h : Turns S w w') (hB : B ≤ w.heap.size) (hS : ∀ b, S b → B ≤ b) : Below B w w' := ⟨h.os, h.tape, h.output, h.size, fun b hb => h.block b (by omega) fun q => by have := hS b q; omega⟩
theorem Turns.trans {S T : Nat → Prop} {w v u : World} (h : Turns S w v) (k : Turns T v u) (hT : ∀ b, T b → S b ∨ w.heap.size ≤ b) : Turns S w u :=
  ⟨k.os.trans h.os, k.tape.trans h.tape, k.output.trans h.output, Nat.le_trans h.size k.size, fun b hb hS => (k.block b (Nat.lt_of_lt_of_le hb h.size) fun q => by rcases hT b q with z | z; exact hS z; omega).trans (h.block b hb hS)⟩
theorem Turns.mono {S T : Nat → Prop} {w v : World} (h : Turns S w v) (hT : ∀ b, S b → T b) : Turns T w v := ⟨h.os, h.tape, h.output, h.size, fun b hb hS => h.block b hb fun q => hS (hT b q)⟩
theorem Turns.drew {S : Nat → Prop} {w v : World} (h : Turns S w v) : Turns S w v.drew := ⟨h.os, h.tape, h.output, h.size, h.block⟩
/-- a disk goes from q to q' -/
def Moved (g N : Nat) (q q' : QD) (w w' : World) : Prop := Turns (foot g N q) w w' ∧ ∀ b, foot g N q' b → foot g N q b ∨ w.heap.size ≤ b
theorem Moved.of_below {g N : Nat} {q : QD} {w w' : World} (h : Below w.heap.size w w') : Moved g N q q w w' := ⟨.of_below h, fun _ => .inl⟩
theorem Moved.trans {g N : Nat} {p q r : QD} {w v u : World} (h : Moved g N p q w v) (k : Moved g N q r v u) : Moved g N p r w u :=
  ⟨h.1.trans k.1 h.2, fun b hb => by
    rcases k.2 b hb with z | z
    · exact h.2 b z
    · exact .inr (Nat.le_trans h.1.size z)⟩
section
variable {w w' : World} {B g N k lg : Nat} {F : Nat → Nat} {q : QD}
theorem DiskQ.foots (h : DiskQ w B g N F k lg q) : ∀ b, foot g N q b → B ≤ b ∧ b < w.heap.size := by
  intro b hb
  have hm := h.many
  rcases hb with rfl | rfl | rfl | z | z | z | ⟨j, hj, z⟩
  · exact ⟨h.gB, h.cells.lt⟩
  · exact ⟨h.nB, h.now.lt⟩
  · obtain ⟨es, cl, hg, _⟩ := h.map
    exact ⟨h.rB, (Array.getElem?_eq_some_iff.1 hg).1⟩
  · exact h.steps.row.lt b z
  · exact h.log.lt b z
  · exact h.wear.lt b z
  · exact (h.steps.each j (by omega)).lt b z
theorem DiskQ.kept (h : DiskQ w B g N F k lg q) (hk : ∀ b, foot g N q b → w'.heap[b]? = w.heap[b]?) : DiskQ w' B g N F k lg q := by
  have hm := h.many
  refine ⟨h.gB, (hk g (.inl rfl)).trans h.cells, h.nB, (hk _ (.inr (.inl rfl))).trans h.now, h.rB, ?_, h.keys, ⟨own_block h.steps.row fun b hb => hk b (.inr (.inr (.inr (.inl hb)))), fun j hj => own_block (h.steps.each j hj) fun b hb => hk b (.inr (.inr (.inr (.inr (.inr (.inr ⟨j, by omega, hb⟩)))))), h.steps.apart⟩, h.many, h.short, own_block h.log fun b hb => hk b (.inr (.inr (.inr (.inr (.inl hb))))), own_block h.wear fun b hb => hk b (.inr (.inr (.inr (.inr (.inr (.inl hb)))))), h.ints, h.apart⟩
  obtain ⟨es, cl, hg, he⟩ := h.map
  exact ⟨es, cl, (hk _ (.inr (.inr (.inl rfl)))).trans hg, he⟩
theorem DiskQ.below (h : DiskQ w B g N F k lg q) (hb : Below w.heap.size w w') : DiskQ w' B g N F k lg q := h.kept fun b hf => hb.block b (h.foots b hf).2
theorem blk_ne {a b s t : Nat} {cs ds : Array Value} (h : Blk w a s cs) (k : Blk w b t ds) (hne : s ≠ t) : a ≠ b := fun e => by
  subst e
  unfold Blk at h k
  rw [h] at k
  simp at k
  exact hne k.2
/-- what is in block g turns: counts -/
theorem DiskQ.put (h : DiskQ w B g N F k lg q) {k' : Nat} (hk : k ≤ k') (ev : Int) (hB : Blk w' g 198 (dcells { q with ev := ev } N k')) (hs : ∀ b, b ≠ g → w'.heap[b]? = w.heap[b]?) : DiskQ w' B g N F k' lg { q with ev := ev } := by
  have hm := h.many
  refine ⟨h.gB, hB, h.nB, (hs _ (blk_ne h.now h.cells (by decide))).trans h.now, h.rB, ?_, fun p hp => by have := h.keys p hp; omega, ⟨own_block h.steps.row fun b hb => hs b fun e => own_ne h.steps.row h.cells (by decide) (e ▸ hb), fun j hj => own_block (h.steps.each j hj) fun b hb => hs b fun e => own_ne (h.steps.each j hj) h.cells (by decide) (e ▸ hb), h.steps.apart⟩, h.many, fun j => Nat.le_trans (h.short j) (Nat.succ_le_succ hk), own_block h.log fun b hb => hs b fun e => own_ne h.log h.cells (by decide) (e ▸ hb), own_block h.wear fun b hb => hs b fun e => own_ne h.wear h.cells (by decide) (e ▸ hb), h.ints, h.apart⟩
  obtain ⟨es, cl, hg, he⟩ := h.map
  exact ⟨es, cl, (hs _ (map_blk hg h.cells)).trans hg, he⟩
/-- the blocks' bytes turn -/
theorem DiskQ.renow (h : DiskQ w B g N F k lg q) {F' : Nat → Nat} (hn : Blk w' q.gn 237 (va (N * 256) (iv .u8 F'))) (hs : ∀ b, b ≠ q.gn → w'.heap[b]? = w.heap[b]?) : DiskQ w' B g N F' k lg q := by
  have hm := h.many
  obtain ⟨es, cl, hg, he⟩ := h.map
  refine ⟨h.gB, (hs _ (blk_ne h.cells h.now (by decide))).trans h.cells, h.nB, hn, h.rB, ⟨es, cl, (hs _ (map_blk hg h.now)).trans hg, he⟩, h.keys, ⟨own_block h.steps.row fun b hb => hs b fun e => own_ne h.steps.row h.now (by decide) (e ▸ hb), fun j hj => own_block (h.steps.each j hj) fun b hb => hs b fun e => own_ne (h.steps.each j hj) h.now (by decide) (e ▸ hb), h.steps.apart⟩, h.many, h.short, own_block h.log fun b hb => hs b fun e => own_ne h.log h.now (by decide) (e ▸ hb), own_block h.wear fun b hb => hs b fun e => own_ne h.wear h.now (by decide) (e ▸ hb), h.ints, h.apart⟩
end
end Go.Proofs.YtojnlmfahgeidaaGreatDoor
