/- What a block held from a raw step on, kept: the program's contract of keep, at a step that was not kept before. -/
import Derived.Test.YtppagdmlfgialaaGreatDoorHBlkGrp
import Derived.Test.YtppagdmlfgialaaGreatDoorHNdKit
import Derived.OwnWalk
import Derived.Maps.AppendAt
import Derived.Handy
import Derived.BigQuiet
import Derived.Deep.QuietTactic
import Derived.Deep.MidRow

namespace Go.Proofs.YtppagdmlfgialaaGreatDoor
theorem sgLHDkKeep : (∀ (α : Type) (a : α) (l r : List α), (a :: l) ++ r = a :: (l ++ r)) ∧ (∀ (α : Type) (l : List α), [] ++ l = l) ∧ (∀ (α : Type) (l : List α), l ++ [] = l) ∧ (∀ (α β : Type) (f : α → Option β) (a : α) (l : List α), (a :: l).filterMap f = match f a with | none => l.filterMap f | some b => b :: l.filterMap f) ∧ (∀ (α β : Type) (f : α → Option β), [].filterMap f = []) ∧ (∀ (α : Type) (l : List α) (i : Nat), l.toArray[i]? = l[i]?) ∧ (∀ (α : Type) (a : α) (l : List α), (a :: l)[0]? = some a) ∧ (∀ (α : Type) (a : α) (l : List α) (i : Nat), (a :: l)[i + 1]? = l[i]?) :=
  ⟨fun _ _ _ _ => List.cons_append, fun _ _ => List.nil_append _, fun _ _ => List.append_nil _, fun _ _ _ _ _ => List.filterMap_cons, fun _ _ _ => List.filterMap_nil, fun _ _ _ => List.getElem?_toArray, fun _ _ _ => List.getElem?_cons_zero, fun _ _ _ _ => List.getElem?_cons_succ⟩
theorem sgPHDkKeep : (∀ (α : Type) (l : List α) (i : Nat) (a : α), l.toArray.setIfInBounds i a = (l.set i a).toArray) ∧ (∀ (α : Type) (a b : α) (l : List α), (a :: l).set 0 b = b :: l) ∧ (∀ (α : Type) (a b : α) (l : List α) (i : Nat), (a :: l).set (i + 1) b = a :: l.set i b) :=
  ⟨fun _ _ _ _ => List.setIfInBounds_toArray _ _ _, fun _ _ _ _ => List.set_cons_zero, fun _ _ _ _ _ => List.set_cons_succ⟩
end Go.Proofs.YtppagdmlfgialaaGreatDoor
namespace Go.Proofs.YtppagdmlfgialaaGreatDoor
open Go.RowKit
set_option linter.unusedSimpArgs false
set_option linter.unusedVariables false

theorem wpList_append_own_at {P : Program} {ops : Array Oper} {rest : List Oper} {o : Oper} {a : Act} {w : World} {Q : Exit → Act → World → Prop} (hgd : o.guard = none) (s x : Operand) (t : TypeId)
    (ho : o.op = .call { callee := .builtin .append, args := #[s, x], argTypes := #[t, t] })
    (base : Nat) (e : TypeId) (i : TypeInfo) (z : Value) (size bytes : Nat) (ht : P.underlying t = some (.slice e)) (hi : P.info? e = some i) (hz : i.zero = some z)
    (hsize : i.size = size) (hby : i.bytes = bytes) (hzs : z.cells.size = size) (hsz : 0 < size)
    (v : Value) (n : Nat) (xs : List Value) (hs : a.eval s = v) (hown : w.ownsRow base e size v n xs)
    (ad : Addr) (m c : Nat) (news : List Value) (hx : a.eval x = .slice (some ad) m c) (hl : news.length = m * size) (hnews : ∀ j u, news[j]? = some u → w.cell? (ad.add j) = some u) (h1 : ∀ u ∈ news, u.oneCell' = true)
    (h63 : n + m ≤ maxLen) (hbytes : (n + m) * bytes ≤ 140737488355328) (hbase : base ≤ w.heap.size)
    (h : ∀ v' w', w'.ownsRow base e size v' (n + m) (xs ++ news) → w.grownBy w' v.ownBlock → (v'.ownBlock = v.ownBlock ∨ v'.ownBlock = some w.heap.size) → wpList P ops Q rest (a.put o.dst v') w') :
    wpList P ops Q (o :: rest) a w := by
  obtain ⟨v', w', hr, g1, g2, g3, g4⟩ := run_append_own_at (P := P) w base t o.type e i z size bytes ht hi hz hsize hby hzs hsz v n xs hown ad m c news hl hnews h1 h63 hbytes hbase
  refine wpList_plain hgd fun K hK => ?_
  unfold Oper.wp
  simp [execOp, ho, resolve, invoke, builtin, hs, hx, hr, Result.andThen]
  exact hK _ _ (h v' w' g1 g2 g4)
theorem infoInt : (Tryz.prog.info? 3).map (fun i => (i.zero, i.size, i.bytes)) = some (some (.int .i64 0), 1, 8) := by kernel_rfl
theorem infoInts : (Tryz.prog.info? 135).map (fun i => (i.zero, i.size, i.bytes)) = some (some (.slice none 0 0), 1, 24) := by kernel_rfl
end Go.Proofs.YtppagdmlfgialaaGreatDoor

namespace Go.Proofs.YtppagdmlfgialaaGreatDoor
open Go Go.RowKit
set_option linter.unusedSimpArgs false
set_option linter.unusedVariables false

theorem dkbelow_drewN {B : Nat} {w w' : World} (h : Below B w w') (n : Nat) : Below B w (w'.drewN n) := h.trans (below_drewN (Below.refl _ _) n)
end Go.Proofs.YtppagdmlfgialaaGreatDoor

namespace Go.Proofs.YtppagdmlfgialaaGreatDoor
open Go Go.RowKit
set_option linter.unusedSimpArgs false
set_option linter.unusedVariables false

/-- a raw step and a block, as a key -/
def momK (a : Int × Int) : Value := .agg #[.int .i64 a.1, .int .i64 a.2]
theorem eq_mom (d : Nat) (a b : Int × Int) (w : World) : (Op.equalIn (d + 1 + 1) 282 (momK a) (momK b)).run Tryz.prog w = .ok (decide (a = b)) w := by
  unfold momK
  have h1 : ∀ x y : Int, (Op.equalIn (d + 1) 3 (.int .i64 x) (.int .i64 y)).run Tryz.prog w = .ok (x == y) w := fun x y => by simp [Op.equalIn, run_underlying Tryz.underlying3]
  have p1 : ∀ x y : Int, (part 3 #[.int .i64 x, .int .i64 y] 0).run Tryz.prog w = .ok (.int .i64 x) w := fun x y => by simp [part, isAgg, run_underlying Tryz.underlying3]
  have p2 : ∀ x y : Int, (part 3 #[.int .i64 x, .int .i64 y] 1).run Tryz.prog w = .ok (.int .i64 y) w := fun x y => by simp [part, isAgg, run_underlying Tryz.underlying3]
  rw [Op.equalIn]
  simp only [Sem.run_bind, run_underlying Tryz.underlying282, Result.andThen_ok]
  simp [Op.eqFields, p1, p2, h1]
  obtain ⟨a1, a2⟩ := a
  obtain ⟨b1, b2⟩ := b
  by_cases ha : a1 = b1
  · subst ha
    by_cases hb : a2 = b2
    · subst hb
      simp
    · simp [hb]
  · simp [ha]
theorem chk_mom (d : Nat) (e : Bool) (a : Int × Int) (w : World) : (Instr.checkKey e (d + 1 + 1) 282 (momK a)).run Tryz.prog w = .ok () w := by
  unfold momK
  have h1 : ∀ x : Int, (Instr.checkKey e (d + 1) 3 (.int .i64 x)).run Tryz.prog w = .ok () w := fun x => by simp [Instr.checkKey, run_underlying Tryz.underlying3]
  have p1 : ∀ x y : Int, (part 3 #[.int .i64 x, .int .i64 y] 0).run Tryz.prog w = .ok (.int .i64 x) w := fun x y => by simp [part, isAgg, run_underlying Tryz.underlying3]
  have p2 : ∀ x y : Int, (part 3 #[.int .i64 x, .int .i64 y] 1).run Tryz.prog w = .ok (.int .i64 y) w := fun x y => by simp [part, isAgg, run_underlying Tryz.underlying3]
  rw [Instr.checkKey]
  simp only [Sem.run_bind, run_underlying Tryz.underlying282, Result.andThen_ok]
  simp [p1, p2, h1]
theorem mom_key : KeyOf Tryz.prog 282 momK where
  desc := ⟨_, Tryz.underlying282, (fun k h => by cases h), (fun h => by cases h), (fun h => by cases h)⟩
  eq a b w := eq_mom 9998 a b w
  chk e a w := chk_mom 9998 e a w

/-- what a disk has in the memory -/
structure QD where
  gn : Nat
  r : Nat
  sv : Value
  pl : Value
  cu : Value
  dd : Bool
  ev : Int
  lv : Value
  wv : Value
  l : List ((Int × Int) × Vector Nat 256)
  G : List (List Nat)
  ss : List Value
  xs : List Value
  ys : List Value
def dcells (q : QD) (N k : Nat) : Array Value := #[.slice (some ⟨q.gn, 0, none⟩) N N, .map (some q.r), q.sv, q.pl, q.cu, .bool q.dd, .int .i64 (k : Int), .int .i64 q.ev, q.lv, q.wv]
/-- a disk of N blocks in block g: the bytes F, k raw steps, lg entries of the log -/
structure DiskQ (w : World) (B g N : Nat) (F : Nat → Nat) (k lg : Nat) (q : QD) : Prop where
  gB : B ≤ g
  cells : Blk w g 140 (dcells q N k)
  nB : B ≤ q.gn
  now : Blk w q.gn 141 (va (N * 256) (iv .u8 F))
  rB : B ≤ q.r
  map : MapIs momK bK w q.r q.l
  keys : ∀ p ∈ q.l, p.1.1 ≤ (k : Int)
  steps : GrpAt w B q.sv q.G q.ss
  many : q.G.length = N
  short : ∀ j, (q.G.getD j []).length ≤ k + 1
  log : w.ownsRow B 225 258 q.lv lg q.xs
  wear : w.ownsRow B 3 1 q.wv N q.ys
  ints : ∀ j, j < N → ∃ x : Int, q.ys[j]? = some (.int .i64 x)
  apart : ∀ j, j < N → ∀ b, (q.ss.getD j undef).ownBlock = some b → q.wv.ownBlock ≠ some b
/-- its blocks in the memory -/
def foot (g N : Nat) (q : QD) (b : Nat) : Prop := b = g ∨ b = q.gn ∨ b = q.r ∨ q.sv.ownBlock = some b ∨ q.lv.ownBlock = some b ∨ q.wv.ownBlock = some b ∨ ∃ j, j < N ∧ (q.ss.getD j undef).ownBlock = some b
/-- only blocks of S turn -/
structure Turns (S : Nat → Prop) (w w' : World) : Prop where
  os : w'.os = w.os
  tape : w'.tape = w.tape
  output : w'.output = w.output
  size : w.heap.size ≤ w'.heap.size
  block : ∀ b, b < w.heap.size → ¬ S b → w'.heap[b]? = w.heap[b]?
theorem Turns.of_below {S : Nat → Prop} {w w' : World} (h : Below w.heap.size w w') : Turns S w w' := ⟨h.os, h.tape, h.output, h.size, fun b hb _ => h.block b hb⟩
theorem Turns.below {S : Nat → Prop} {w w' : World} {B : Nat} (h : Turns S w w') (hB : B ≤ w.heap.size) (hS : ∀ b, S b → B ≤ b) : Below B w w' := ⟨h.os, h.tape, h.output, h.size, fun b hb => h.block b (by omega) fun q => by have := hS b q; omega⟩
theorem Turns.trans {S T : Nat → Prop} {w v u : World} (h : Turns S w v) (k : Turns T v u) (hT : ∀ b, T b → S b ∨ w.heap.size ≤ b) : Turns S w u :=
  ⟨k.os.trans h.os, k.tape.trans h.tape, k.output.trans h.output, Nat.le_trans h.size k.size, fun b hb hS => (k.block b (Nat.lt_of_lt_of_le hb h.size) fun q => by rcases hT b q with z | z; exact hS z; omega).trans (h.block b hb hS)⟩
theorem Turns.mono {S T : Nat → Prop} {w v : World} (h : Turns S w v) (hT : ∀ b, S b → T b) : Turns T w v := ⟨h.os, h.tape, h.output, h.size, fun b hb hS => h.block b hb fun q => hS (hT b q)⟩
theorem Turns.drew {S : Nat → Prop} {w v : World} (h : Turns S w v) : Turns S w v.drew := ⟨h.os, h.tape, h.output, h.size, h.block⟩
/-- a disk goes from q to q' -/
def Moved (g N : Nat) (q q' : QD) (w w' : World) : Prop := Turns (foot g N q) w w' ∧ ∀ b, foot g N q' b → foot g N q b ∨ w.heap.size ≤ b
theorem Moved.of_below {g N : Nat} {q : QD} {w w' : World} (h : Below w.heap.size w w') : Moved g N q q w w' := ⟨.of_below h, fun _ => .inl⟩
theorem Moved.trans {g N : Nat} {p q r : QD} {w v u : World} (h : Moved g N p q w v) (k : Moved g N q r v u) : Moved g N p r w u :=
  ⟨h.1.trans k.1 h.2, fun b hb => by
    rcases k.2 b hb with z | z
    · exact h.2 b z
    · exact .inr (Nat.le_trans h.1.size z)⟩
section
variable {w w' : World} {B g N k lg : Nat} {F : Nat → Nat} {q : QD}
theorem DiskQ.foots (h : DiskQ w B g N F k lg q) : ∀ b, foot g N q b → B ≤ b ∧ b < w.heap.size := by
  intro b hb
  have hm := h.many
  rcases hb with rfl | rfl | rfl | z | z | z | ⟨j, hj, z⟩
  · exact ⟨h.gB, h.cells.lt⟩
  · exact ⟨h.nB, h.now.lt⟩
  · obtain ⟨es, cl, hg, _⟩ := h.map
    exact ⟨h.rB, (Array.getElem?_eq_some_iff.1 hg).1⟩
  · exact h.steps.row.lt b z
  · exact h.log.lt b z
  · exact h.wear.lt b z
  · exact (h.steps.each j (by omega)).lt b z
theorem DiskQ.kept (h : DiskQ w B g N F k lg q) (hk : ∀ b, foot g N q b → w'.heap[b]? = w.heap[b]?) : DiskQ w' B g N F k lg q := by
  have hm := h.many
  refine ⟨h.gB, (hk g (.inl rfl)).trans h.cells, h.nB, (hk _ (.inr (.inl rfl))).trans h.now, h.rB, ?_, h.keys, ⟨own_block h.steps.row fun b hb => hk b (.inr (.inr (.inr (.inl hb)))), fun j hj => own_block (h.steps.each j hj) fun b hb => hk b (.inr (.inr (.inr (.inr (.inr (.inr ⟨j, by omega, hb⟩)))))), h.steps.apart⟩, h.many, h.short, own_block h.log fun b hb => hk b (.inr (.inr (.inr (.inr (.inl hb))))), own_block h.wear fun b hb => hk b (.inr (.inr (.inr (.inr (.inr (.inl hb)))))), h.ints, h.apart⟩
  obtain ⟨es, cl, hg, he⟩ := h.map
  exact ⟨es, cl, (hk _ (.inr (.inr (.inl rfl)))).trans hg, he⟩
theorem DiskQ.below (h : DiskQ w B g N F k lg q) (hb : Below w.heap.size w w') : DiskQ w' B g N F k lg q := h.kept fun b hf => hb.block b (h.foots b hf).2
theorem blk_ne {a b s t : Nat} {cs ds : Array Value} (h : Blk w a s cs) (k : Blk w b t ds) (hne : s ≠ t) : a ≠ b := fun e => by
  subst e
  unfold Blk at h k
  rw [h] at k
  simp at k
  exact hne k.2
/-- what is in block g turns: counts -/
theorem DiskQ.put (h : DiskQ w B g N F k lg q) {k' : Nat} (hk : k ≤ k') (ev : Int) (hB : Blk w' g 140 (dcells { q with ev := ev } N k')) (hs : ∀ b, b ≠ g → w'.heap[b]? = w.heap[b]?) : DiskQ w' B g N F k' lg { q with ev := ev } := by
  have hm := h.many
  refine ⟨h.gB, hB, h.nB, (hs _ (blk_ne h.now h.cells (by decide))).trans h.now, h.rB, ?_, fun p hp => by have := h.keys p hp; omega, ⟨own_block h.steps.row fun b hb => hs b fun e => own_ne h.steps.row h.cells (by decide) (e ▸ hb), fun j hj => own_block (h.steps.each j hj) fun b hb => hs b fun e => own_ne (h.steps.each j hj) h.cells (by decide) (e ▸ hb), h.steps.apart⟩, h.many, fun j => Nat.le_trans (h.short j) (Nat.succ_le_succ hk), own_block h.log fun b hb => hs b fun e => own_ne h.log h.cells (by decide) (e ▸ hb), own_block h.wear fun b hb => hs b fun e => own_ne h.wear h.cells (by decide) (e ▸ hb), h.ints, h.apart⟩
  obtain ⟨es, cl, hg, he⟩ := h.map
  exact ⟨es, cl, (hs _ (map_blk hg h.cells)).trans hg, he⟩
/-- the log turns -/
theorem DiskQ.relog (h : DiskQ w B g N F k lg q) {lg' : Nat} (lv' : Value) (xs' : List Value) (hB : Blk w' g 140 (dcells { q with lv := lv', xs := xs' } N k)) (hl : w'.ownsRow B 225 258 lv' lg' xs') (hs : ∀ b, foot g N q b → b ≠ g → q.lv.ownBlock ≠ some b → w'.heap[b]? = w.heap[b]?) : DiskQ w' B g N F k lg' { q with lv := lv', xs := xs' } := by
  have hm := h.many
  obtain ⟨es, cl, hg, he⟩ := h.map
  refine ⟨h.gB, hB, h.nB, (hs _ (.inr (.inl rfl)) (blk_ne h.now h.cells (by decide)) (own_ne h.log h.now (by decide))).trans h.now, h.rB, ⟨es, cl, (hs _ (.inr (.inr (.inl rfl))) (map_blk hg h.cells) (own_map h.log hg)).trans hg, he⟩, h.keys, ⟨own_block h.steps.row fun b hb => hs b (.inr (.inr (.inr (.inl hb)))) (fun e => own_ne h.steps.row h.cells (by decide) (e ▸ hb)) (own_own h.steps.row h.log (by decide) hb), fun j hj => own_block (h.steps.each j hj) fun b hb => hs b (.inr (.inr (.inr (.inr (.inr (.inr ⟨j, (by have : j < q.G.length := hj; omega), hb⟩)))))) (fun e => own_ne (h.steps.each j hj) h.cells (by decide) (e ▸ hb)) (own_own (h.steps.each j hj) h.log (by decide) hb), h.steps.apart⟩, h.many, h.short, hl, own_block h.wear fun b hb => hs b (.inr (.inr (.inr (.inr (.inr (.inl hb)))))) (fun e => own_ne h.wear h.cells (by decide) (e ▸ hb)) (own_own h.wear h.log (by decide) hb), h.ints, h.apart⟩
/-- the blocks' bytes turn -/
theorem DiskQ.renow (h : DiskQ w B g N F k lg q) {F' : Nat → Nat} (hn : Blk w' q.gn 141 (va (N * 256) (iv .u8 F'))) (hs : ∀ b, b ≠ q.gn → w'.heap[b]? = w.heap[b]?) : DiskQ w' B g N F' k lg q := by
  have hm := h.many
  obtain ⟨es, cl, hg, he⟩ := h.map
  refine ⟨h.gB, (hs _ (blk_ne h.cells h.now (by decide))).trans h.cells, h.nB, hn, h.rB, ⟨es, cl, (hs _ (map_blk hg h.now)).trans hg, he⟩, h.keys, ⟨own_block h.steps.row fun b hb => hs b fun e => own_ne h.steps.row h.now (by decide) (e ▸ hb), fun j hj => own_block (h.steps.each j hj) fun b hb => hs b fun e => own_ne (h.steps.each j hj) h.now (by decide) (e ▸ hb), h.steps.apart⟩, h.many, h.short, own_block h.log fun b hb => hs b fun e => own_ne h.log h.now (by decide) (e ▸ hb), own_block h.wear fun b hb => hs b fun e => own_ne h.wear h.now (by decide) (e ▸ hb), h.ints, h.apart⟩
/-- the past turns -/
theorem DiskQ.repast (h : DiskQ w B g N F k lg q) {l' : List ((Int × Int) × Vector Nat 256)} {G' : List (List Nat)} {ss' : List Value} (hmap : MapIs momK bK w' q.r l') (hkeys : ∀ p ∈ l', p.1.1 ≤ (k : Int)) (hG : GrpAt w' B q.sv G' ss') (hlen : G'.length = N) (hsh : ∀ j, (G'.getD j []).length ≤ k + 1)
    (hap : ∀ j, j < N → ∀ b, (ss'.getD j undef).ownBlock = some b → (∃ i, i < N ∧ (q.ss.getD i undef).ownBlock = some b) ∨ w.heap.size ≤ b)
    (hs : ∀ b, b < w.heap.size → b ≠ q.r → q.sv.ownBlock ≠ some b → (∀ j, j < N → (q.ss.getD j undef).ownBlock ≠ some b) → w'.heap[b]? = w.heap[b]?) : DiskQ w' B g N F k lg { q with l := l', G := G', ss := ss' } := by
  have hm := h.many
  obtain ⟨es, cl, hg, he⟩ := h.map
  have each : ∀ j, j < N → w.ownsRow B 3 1 (q.ss.getD j undef) (q.G.getD j []).length (intL (q.G.getD j [])) := fun j hj => h.steps.each j (by omega)
  refine ⟨h.gB, (hs _ h.cells.lt (map_blk hg h.cells).symm (own_ne h.steps.row h.cells (by decide)) fun j hj => own_ne (each j hj) h.cells (by decide)).trans h.cells, h.nB, (hs _ h.now.lt (map_blk hg h.now).symm (own_ne h.steps.row h.now (by decide)) fun j hj => own_ne (each j hj) h.now (by decide)).trans h.now, h.rB, hmap, hkeys, hG, hlen, hsh, own_block h.log fun b hb => hs b (h.log.lt b hb).2 (fun e => own_map h.log hg (e ▸ hb)) (own_own h.log h.steps.row (by decide) hb) fun j hj => own_own h.log (each j hj) (by decide) hb, own_block h.wear fun b hb => hs b (h.wear.lt b hb).2 (fun e => own_map h.wear hg (e ▸ hb)) (own_own h.wear h.steps.row (by decide) hb) fun j hj e => h.apart j hj b e hb, h.ints, fun j hj b hb e => ?_⟩
  rcases hap j hj b hb with ⟨i, hi, z⟩ | z
  · exact h.apart i hi b z e
  · have := (h.wear.lt b e).2
    omega
end
end Go.Proofs.YtppagdmlfgialaaGreatDoor

namespace Go.Proofs.YtppagdmlfgialaaGreatDoor
open Go Go.RowKit
set_option linter.unusedSimpArgs false
set_option linter.unusedVariables false

section
variable {w : World} {B g N k lg : Nat} {F : Nat → Nat} {q : QD}
theorem DiskQ.c (h : DiskQ w B g N F k lg q) (i : Nat) : w.cell? ⟨g, i, none⟩ = (dcells q N k)[i]? := h.cells.cell i
set_option maxHeartbeats 1000000 in
theorem dead_q (hd : q.dd = false) (w : World) (h : DiskQ w B g N F k lg q) : Calls Tryz.prog 105 #[.pointer (some ⟨g, 0, none⟩)] w fun e w' => e = .returned (.bool false) ∧ w = w' := by
  have c5 : w.cell? ⟨g, 5, none⟩ = some (.bool false) := by rw [h.c]; show some (Value.bool q.dd) = _; rw [hd]
  clear h
  go_enter Tryz.func105, Tryz.ntmps105
  go_wp2_with fail
  go_ret
  exact ⟨rfl, rfl⟩
set_option maxHeartbeats 1000000 in
theorem blocks_q (w : World) (h : DiskQ w B g N F k lg q) : Calls Tryz.prog 67 #[.pointer (some ⟨g, 0, none⟩)] w fun e w' => e = .returned (.int .i64 (N : Int)) ∧ w = w' := by
  have c0 : w.cell? ⟨g, 0, none⟩ = some (.slice (some ⟨q.gn, 0, none⟩) N N) := by rw [h.c]; rfl
  clear h
  go_enter Tryz.func67, Tryz.ntmps67
  go_wp2_with fail
  go_ret
  exact ⟨rfl, rfl⟩
end
end Go.Proofs.YtppagdmlfgialaaGreatDoor

namespace Go.Proofs.YtppagdmlfgialaaGreatDoor
open Go Go.RowKit
set_option linter.unusedSimpArgs false
set_option linter.unusedVariables false

theorem vbK (b : Nat → Nat) : bK (blkD b) = .agg (va 256 (iv .u8 b)) := bK_blkD b
set_option maxRecDepth 100000 in
set_option maxHeartbeats 8000000 in
theorem keep_new (B r step at0 : Nat) (sv : Value) (G : List (List Nat)) (ss : List Value) (l : List ((Int × Int) × Vector Nat 256)) (b : Nat → Nat) (hat : at0 < G.length) (hGl : G.length ≤ 8192) (hlen : (G.getD at0 []).length ≤ 1099511627776) (hn : findIn ((step : Int), (at0 : Int)) l = none)
    (w : World) (hB : B ≤ w.heap.size) (hM : MapIs momK bK w r l) (hG : GrpAt w B sv G ss) :
    Calls Tryz.prog 98 #[.agg #[.map (some r), sv], .int .i64 (step : Int), .int .i64 (at0 : Int), .agg (va 256 (iv .u8 b))] w fun e w' => e = .returned (.tuple #[]) ∧ ∃ s', MapIs momK bK w' r (l ++ [(((step : Int), (at0 : Int)), blkD b)]) ∧ GrpAt w' B sv (G.set at0 (G.getD at0 [] ++ [step])) (ss.set at0 s') ∧ (s'.ownBlock = (ss.getD at0 undef).ownBlock ∨ ∃ k, s'.ownBlock = some k ∧ w.heap.size ≤ k) ∧ Turns (fun z => z = r ∨ sv.ownBlock = some z ∨ (ss.getD at0 undef).ownBlock = some z) w w' := by
  have hz := zero_bk
  obtain ⟨i0, hi, hz0, hz1, hz2⟩ := info_parts infoInt
  obtain ⟨gv, c, rfl, hgv, hgvl⟩ := kown_form hG.row (show 0 < G.length by omega)
  have hrl : r < w.heap.size := by
    obtain ⟨es, cl, hg, _⟩ := hM
    exact (Array.getElem?_eq_some_iff.1 hg).1
  have j0 : (0 : Int) ≤ (at0 : Int) := by omega
  have j1 : (at0 : Int) < (G.length : Int) := by omega
  have hb2 : Below w.heap.size w (((w.alloc (.cells #[.map (some r), .slice (some ⟨gv, 0, none⟩) G.length c] 133)).alloc (.cells (va 256 (iv .u8 b)) 141)).alloc (.cells #[.int .i64 (step : Int), .int .i64 (at0 : Int)] 282)) := below_new3 _ _ _ _
  have hlk := run_lookup_is (P := Tryz.prog) Tryz.underlying130 mom_key zero_bk (hM.below hb2 hrl) ((step : Int), (at0 : Int)) true
  rw [hn] at hlk
  have hlk2 : Sem.run Tryz.prog (Instr.lookup 130 (.map (some r)) (.agg #[.int .i64 (step : Int), .int .i64 (at0 : Int)]) true) (((w.alloc (.cells #[.map (some r), .slice (some ⟨gv, 0, none⟩) G.length c] 133)).alloc (.cells (va 256 (iv .u8 b)) 141)).alloc (.cells #[.int .i64 (step : Int), .int .i64 (at0 : Int)] 282)) = .ok (.tuple #[.agg (va 256 (iv .u8 fun _ => 0)), .bool false]) (((w.alloc (.cells #[.map (some r), .slice (some ⟨gv, 0, none⟩) G.length c] 133)).alloc (.cells (va 256 (iv .u8 b)) 141)).alloc (.cells #[.int .i64 (step : Int), .int .i64 (at0 : Int)] 282)) := hlk
  have r3 : Blk ((((w.alloc (.cells #[.map (some r), .slice (some ⟨gv, 0, none⟩) G.length c] 133)).alloc (.cells (va 256 (iv .u8 b)) 141)).alloc (.cells #[.int .i64 (step : Int), .int .i64 (at0 : Int)] 282)).alloc (.cells (va 256 (iv .u8 fun _ => 0)) 141)) (w.heap.size + 3) 141 (va 256 (iv .u8 fun _ => 0)) := by
    have := Blk.new (((w.alloc (.cells #[.map (some r), .slice (some ⟨gv, 0, none⟩) G.length c] 133)).alloc (.cells (va 256 (iv .u8 b)) 141)).alloc (.cells #[.int .i64 (step : Int), .int .i64 (at0 : Int)] 282)) 141 (va 256 (iv .u8 fun _ => 0))
    rwa [show (((w.alloc (.cells #[.map (some r), .slice (some ⟨gv, 0, none⟩) G.length c] 133)).alloc (.cells (va 256 (iv .u8 b)) 141)).alloc (.cells #[.int .i64 (step : Int), .int .i64 (at0 : Int)] 282)).heap.size = w.heap.size + 3 by simp] at this
  have k0 : Blk (((w.alloc (.cells #[.map (some r), .slice (some ⟨gv, 0, none⟩) G.length c] 133)).alloc (.cells (va 256 (iv .u8 b)) 141)).alloc (.cells #[.int .i64 (step : Int), .int .i64 (at0 : Int)] 282)) w.heap.size 133 #[.map (some r), .slice (some ⟨gv, 0, none⟩) G.length c] := ((Blk.new _ _ _).alloc _).alloc _
  have k1 : Blk (((w.alloc (.cells #[.map (some r), .slice (some ⟨gv, 0, none⟩) G.length c] 133)).alloc (.cells (va 256 (iv .u8 b)) 141)).alloc (.cells #[.int .i64 (step : Int), .int .i64 (at0 : Int)] 282)) (w.heap.size + 1) 141 (va 256 (iv .u8 b)) := (Blk.new1 _ _ _ _).alloc _
  have k2 : Blk (((w.alloc (.cells #[.map (some r), .slice (some ⟨gv, 0, none⟩) G.length c] 133)).alloc (.cells (va 256 (iv .u8 b)) 141)).alloc (.cells #[.int .i64 (step : Int), .int .i64 (at0 : Int)] 282)) (w.heap.size + 2) 282 #[.int .i64 (step : Int), .int .i64 (at0 : Int)] := Blk.new2 _ _ _ _ _
  have hs2 : (((w.alloc (.cells #[.map (some r), .slice (some ⟨gv, 0, none⟩) G.length c] 133)).alloc (.cells (va 256 (iv .u8 b)) 141)).alloc (.cells #[.int .i64 (step : Int), .int .i64 (at0 : Int)] 282)).heap.size = w.heap.size + 3 := by simp
  clear hlk
  go_enter Tryz.func98, Tryz.ntmps98
  go_wp2_with (first
    | (refine wpList_store_row (by rfl) 141 _ _ (by rfl) (w.heap.size + 3) (va 256 (iv .u8 (fun _ => 0))) (by rfl) (by rfl) 141 _ r3 (sizeBk.trans (by rw [va_size])) (by simp only [va_size]) (iv_one _ _ _) ?_; simp only [Act.put, sgPHDkKeep])
    | fail)
  have hb3 : Below w.heap.size w (((((w.alloc (.cells #[.map (some r), .slice (some ⟨gv, 0, none⟩) G.length c] 133)).alloc (.cells (va 256 (iv .u8 b)) 141)).alloc (.cells #[.int .i64 (step : Int), .int .i64 (at0 : Int)] 282)).alloc (.cells (va 256 (iv .u8 fun _ => 0)) 141)).setRow (w.heap.size + 3) (va 256 (iv .u8 fun _ => 0))) := below_setRow (hb2.alloc (by omega) _) (by omega) _
  have m0 : Blk (((((w.alloc (.cells #[.map (some r), .slice (some ⟨gv, 0, none⟩) G.length c] 133)).alloc (.cells (va 256 (iv .u8 b)) 141)).alloc (.cells #[.int .i64 (step : Int), .int .i64 (at0 : Int)] 282)).alloc (.cells (va 256 (iv .u8 fun _ => 0)) 141)).setRow (w.heap.size + 3) (va 256 (iv .u8 fun _ => 0))) w.heap.size 133 #[.map (some r), .slice (some ⟨gv, 0, none⟩) G.length c] := (k0.alloc _).other _ (by omega)
  have m1 : Blk (((((w.alloc (.cells #[.map (some r), .slice (some ⟨gv, 0, none⟩) G.length c] 133)).alloc (.cells (va 256 (iv .u8 b)) 141)).alloc (.cells #[.int .i64 (step : Int), .int .i64 (at0 : Int)] 282)).alloc (.cells (va 256 (iv .u8 fun _ => 0)) 141)).setRow (w.heap.size + 3) (va 256 (iv .u8 fun _ => 0))) (w.heap.size + 1) 141 (va 256 (iv .u8 b)) := (k1.alloc _).other _ (by omega)
  have m2 : Blk (((((w.alloc (.cells #[.map (some r), .slice (some ⟨gv, 0, none⟩) G.length c] 133)).alloc (.cells (va 256 (iv .u8 b)) 141)).alloc (.cells #[.int .i64 (step : Int), .int .i64 (at0 : Int)] 282)).alloc (.cells (va 256 (iv .u8 fun _ => 0)) 141)).setRow (w.heap.size + 3) (va 256 (iv .u8 fun _ => 0))) (w.heap.size + 2) 282 #[.int .i64 (step : Int), .int .i64 (at0 : Int)] := (k2.alloc _).other _ (by omega)
  clear k0 k1 k2 hlk2 hb2 r3 hs2
  generalize ((((w.alloc (.cells #[.map (some r), .slice (some ⟨gv, 0, none⟩) G.length c] 133)).alloc (.cells (va 256 (iv .u8 b)) 141)).alloc (.cells #[.int .i64 (step : Int), .int .i64 (at0 : Int)] 282)).alloc (.cells (va 256 (iv .u8 fun _ => 0)) 141)).setRow (w.heap.size + 3) (va 256 (iv .u8 fun _ => 0)) = w3 at *
  have hG3 := hG.below hb3
  have hM3 := hM.below hb3 hrl
  have hsz3 : w.heap.size ≤ w3.heap.size := hb3.size
  obtain ⟨S, hS0⟩ : ∃ S, S = ss.getD at0 undef := ⟨_, rfl⟩
  obtain ⟨Gj, hGj⟩ : ∃ Gj, Gj = G.getD at0 [] := ⟨_, rfl⟩
  have hsl := hG.len
  have hcell : w3.cell? ⟨gv, at0, none⟩ = some S := by
    rw [hG3.row.cellAt (g := gv) at0 (by omega), hS0]
    simp [List.getD, hsl, hat]
  have hE := hG3.each at0 hat
  rw [← hS0, ← hGj] at hE
  have HSv : Hid (S = ss.getD at0 undef) := hS0
  have HGJ : Hid (Gj = G.getD at0 []) := hGj
  have HEACH : Hid (w3.ownsRow B 3 1 S Gj.length (intL Gj)) := hE
  rw [← hGj] at hlen
  have HOWN : Hid ((w3.alloc (.cells #[.int .i64 (step : Int)] 3)).drew.ownsRow B 3 1 S Gj.length (intL Gj)) := World.ownsRow.alloc (w := w3) hE _
  have hSb : ∀ x, S.ownBlock = some x → B ≤ x ∧ x < w3.heap.size := hE.lt
  have HG3 : Hid (GrpAt w3 B (.slice (some ⟨gv, 0, none⟩) G.length c) G ss) := hG3
  have HM3 : Hid (MapIs momK bK w3 r l) := hM3
  have d1 : w3.cell? ⟨w.heap.size, 1, none⟩ = some (.slice (some ⟨gv, 0, none⟩) G.length c) := by rw [m0.cell]; rfl
  have HG : Hid (GrpAt w B (.slice (some ⟨gv, 0, none⟩) G.length c) G ss) := hG
  clear hS0 hGj hE hG3 hM3 hG
  refine wp_region_partsS (fun W => W.cell? ⟨w.heap.size, 1, none⟩ = some (.slice (some ⟨gv, 0, none⟩) G.length c) ∧ W.cell? ⟨gv, at0, none⟩ = some S) [([2, 5, 8], 0, true), ([], 1, true), ([], 3, true), ([], 4, true), ([6], 7, true), ([], 9, false), ([], 10, false)] [] [11, 12] (by kernel_rfl) (by kernel_rfl) ⟨d1, hcell⟩ (partsI_yield ?_)
  simp only [sgLHDkKeep]
  go_wp2_with fail
  refine ⟨rfl, _, .pointer (some ⟨w.heap.size, 1, none⟩), rfl, Or.inl ⟨by rfl, fun W hW => by go_simp⟩, partsI_yield ?_⟩
  simp only [Act.put, sgPHDkKeep]
  simp only [sgLHDkKeep]
  go_wp2_with fail
  refine ⟨rfl, _, .slice (some ⟨gv, 0, none⟩) G.length c, rfl, Or.inl ⟨by rfl, fun W hW => by obtain ⟨hW1, hW2⟩ := hW; go_simp⟩, partsI_yield ?_⟩
  simp only [Act.put, sgPHDkKeep]
  simp only [sgLHDkKeep]
  go_wp2_with fail
  refine ⟨rfl, _, .pointer (some ⟨w.heap.size, 1, none⟩), rfl, Or.inl ⟨by rfl, fun W hW => by go_simp⟩, partsI_yield ?_⟩
  simp only [Act.put, sgPHDkKeep]
  simp only [sgLHDkKeep]
  go_wp2_with fail
  refine ⟨rfl, _, .slice (some ⟨gv, 0, none⟩) G.length c, rfl, Or.inl ⟨by rfl, fun W hW => by obtain ⟨hW1, hW2⟩ := hW; go_simp⟩, partsI_yield ?_⟩
  simp only [Act.put, sgPHDkKeep]
  simp only [sgLHDkKeep]
  go_wp2_with fail
  refine ⟨rfl, _, S, rfl, Or.inl ⟨by rfl, fun W hW => by obtain ⟨hW1, hW2⟩ := hW; go_simp⟩, partsI_force ?_⟩
  simp only [Act.put, sgPHDkKeep]
  simp only [sgLHDkKeep]
  go_wp2_with fail
  have a0 : Blk (w3.alloc (.cells #[.int .i64 (step : Int)] 3)).drew w.heap.size 133 #[.map (some r), .slice (some ⟨gv, 0, none⟩) G.length c] := m0.alloc _
  have hGa : GrpAt (w3.alloc (.cells #[.int .i64 (step : Int)] 3)).drew B (.slice (some ⟨gv, 0, none⟩) G.length c) G ss := HG3.out.below (Below.drew (Below.alloc (Below.refl _ w3) (Nat.le_refl _) _))
  have ca : (w3.alloc (.cells #[.int .i64 (step : Int)] 3)).drew.cell? ⟨gv, at0, none⟩ = some S := by
    rw [hGa.row.cellAt (g := gv) at0 (by omega), HSv.out]
    simp [List.getD, hsl, hat]
  refine ⟨rfl, ⟨by rw [a0.cell]; rfl, ca⟩, partsI_force ?_⟩
  simp only [sgLHDkKeep]
  refine wpList_append_own_at rfl _ _ 135 rfl B 3 i0 (.int .i64 0) 1 8 Tryz.underlying135 hi hz0 hz1 hz2 rfl (by decide) _ _ _ rfl HOWN.out ⟨w3.heap.size, 0, none⟩ 1 1 [.int .i64 (step : Int)] rfl rfl (cell_one_new _ _ _) (fun x hx => by simp at hx; subst hx; rfl) (by unfold maxLen; omega) (by omega) (by simp; omega) ?_
  intro s' w4 hrow hgr hsb
  obtain ⟨sa, sc, rfl⟩ := kown_slice hrow
  have hSne : S.ownBlock ≠ some gv := fun qq => own_own HEACH.out HG3.out.row (by decide) qq rfl
  have hrow4 := hGa.row.kept hgr (.inr fun qq => hSne qq.symm)
  have c4 : w4.cell? ⟨gv, at0, none⟩ = some S := by
    have := hrow4.cellAt (g := gv) at0 (by omega)
    rw [this, HSv.out]
    simp [List.getD, hsl, hat]
  have f4 : w4.frozen? ⟨gv, at0, none⟩ = false := by
    rcases hrow4.2 with ⟨hn, _⟩ | ⟨g', cap', cur, hv, _, hg, _⟩
    · cases hn
    · injection hv with hv1
      injection hv1 with hv1
      injection hv1 with hv1
      subst hv1
      exact Blk.frozen (show Blk w4 gv 135 cur from hg) at0
  have b4 : ∀ z, z < w3.heap.size → S.ownBlock ≠ some z → w4.heap[z]? = w3.heap[z]? := fun z hz1 hz2 => by
    rw [hgr.block z (by simp; omega) (fun e => hz2 e.symm)]
    exact (heap_alloc_old _ _ hz1)
  have n0 : S.ownBlock ≠ some w.heap.size := own_ne HEACH.out m0 (by decide)
  have n1 : S.ownBlock ≠ some (w.heap.size + 1) := own_ne HEACH.out m1 (by decide)
  have n2 : S.ownBlock ≠ some (w.heap.size + 2) := own_ne HEACH.out m2 (by decide)
  have p0 : Blk w4 w.heap.size 133 #[.map (some r), .slice (some ⟨gv, 0, none⟩) G.length c] := (b4 _ m0.lt n0).trans m0
  have p1 : Blk w4 (w.heap.size + 1) 141 (va 256 (iv .u8 b)) := (b4 _ m1.lt n1).trans m1
  have p2 : Blk w4 (w.heap.size + 2) 282 #[.int .i64 (step : Int), .int .i64 (at0 : Int)] := (b4 _ m2.lt n2).trans m2
  go_wp2_with fail
  refine ⟨rfl, ⟨by rw [p0.cell]; rfl, c4⟩, partsI_last ?_⟩
  simp only [sgLHDkKeep]
  go_wp2_with fail
  refine ⟨rfl, ?_⟩
  have q0 : Blk (w4.setCell ⟨gv, at0, none⟩ (.slice sa (Gj.length + 1) sc)) w.heap.size 133 #[.map (some r), .slice (some ⟨gv, 0, none⟩) G.length c] := p0.put_other _ _ (by omega)
  have q1 : Blk (w4.setCell ⟨gv, at0, none⟩ (.slice sa (Gj.length + 1) sc)) (w.heap.size + 1) 141 (va 256 (iv .u8 b)) := p1.put_other _ _ (by omega)
  have q2 : Blk (w4.setCell ⟨gv, at0, none⟩ (.slice sa (Gj.length + 1) sc)) (w.heap.size + 2) 282 #[.int .i64 (step : Int), .int .i64 (at0 : Int)] := p2.put_other _ _ (by omega)
  have HGP : Hid (GrpAt (w4.setCell ⟨gv, at0, none⟩ (.slice sa (Gj.length + 1) sc)) B (.slice (some ⟨gv, 0, none⟩) G.length c) (G.set at0 (G.getD at0 [] ++ [step])) (ss.set at0 (.slice sa (Gj.length + 1) sc))) := by
    refine hGa.push hat ?_ ?_ ?_
    · rw [← HGJ.out]
      exact hrow
    · rw [← HSv.out]
      exact hgr
    · rw [← HSv.out]
      rcases hsb with h1 | h1
      · exact .inl h1
      · exact .inr ⟨_, h1, Nat.le_refl _⟩
  have hrS : S.ownBlock ≠ some r := by
    obtain ⟨es, cl, hg, _⟩ := HM3.out
    exact own_map HEACH.out hg
  have hrg : r ≠ gv := fun e => by
    obtain ⟨es, cl, hg, _⟩ := HM3.out
    exact own_map HG3.out.row hg (by rw [e]; rfl)
  have HT5 : Hid (Turns (fun z => z = r ∨ gv = z ∨ S.ownBlock = some z) w (w4.setCell ⟨gv, at0, none⟩ (.slice sa (Gj.length + 1) sc))) := by
    refine ⟨hgr.os.trans hb3.os, hgr.tape.trans hb3.tape, hgr.output.trans hb3.output, ?_, fun z hz hn => ?_⟩
    · rw [Deep.nblk_setCell]
      have := hgr.size
      simp at this
      omega
    · have h1 : z ≠ gv := fun e => hn (.inr (.inl e.symm))
      have h2 : S.ownBlock ≠ some z := fun e => hn (.inr (.inr e))
      rw [Deep.blk_setCell_other w4 ⟨gv, at0, none⟩ _ z h1, b4 z (by omega) h2]
      exact hb3.block z hz
  have hM5 : MapIs momK bK (w4.setCell ⟨gv, at0, none⟩ (.slice sa (Gj.length + 1) sc)) r l := by
    obtain ⟨es, cl, hg, he⟩ := HM3.out
    refine ⟨es, cl, ?_, he⟩
    rw [Deep.blk_setCell_other w4 ⟨gv, at0, none⟩ _ r hrg, b4 r (by omega) hrS]
    exact hg
  have HSB : Hid ((Value.slice sa (Gj.length + 1) sc).ownBlock = S.ownBlock ∨ ∃ k, (Value.slice sa (Gj.length + 1) sc).ownBlock = some k ∧ w.heap.size ≤ k) := by
    rcases hsb with h1 | h1
    · exact .inl h1
    · exact .inr ⟨_, h1, by show w.heap.size ≤ (w3.alloc _).heap.size; simp; omega⟩
  clear hGa ca HOWN hrow hgr hsb hrow4 c4 f4 b4 n0 n1 n2 p0 p1 p2 a0 HEACH
  generalize w4.setCell ⟨gv, at0, none⟩ (.slice sa (Gj.length + 1) sc) = w5 at *
  obtain ⟨w6, hup, hM6, hk6⟩ := run_update_is (P := Tryz.prog) Tryz.underlying130 mom_key hM5 ((step : Int), (at0 : Int)) (blkD b) hn
  have hup2 : Sem.run Tryz.prog (Instr.mapUpdate 130 (.map (some r)) (.agg #[.int .i64 (step : Int), .int .i64 (at0 : Int)]) (.agg (va 256 (iv .u8 b)))) w5 = .ok () w6 := by
    rw [← vbK]
    exact hup
  have x0 : w5.cell? ⟨w.heap.size, 0, none⟩ = some (.map (some r)) := by rw [q0.cell]; rfl
  have y0 : w5.cell? ⟨w.heap.size + 2, 0, none⟩ = some (.int .i64 (step : Int)) := by rw [q2.cell]; rfl
  have y1 : w5.cell? ⟨w.heap.size + 2, 1, none⟩ = some (.int .i64 (at0 : Int)) := by rw [q2.cell]; rfl
  clear hup
  go_wp2_with (first
    | (refine wpList_load_row (by rfl) 141 _ (by rfl) (w.heap.size + 1) (by rfl) 141 (va 256 (iv .u8 b)) (0, 0) _ q1 Tryz.underlying141 (by rfl) (sizeBk.trans (by rw [va_size])) ?_; simp only [Act.put, sgPHDkKeep])
    | fail)
  refine bodyPost_end (results_none Tryz.results98 _ _ _) rfl ?_
  have hkg : ∀ {v : Value} {e m : Nat} {xs : List Value}, w5.ownsRow B e 1 v m xs → w6.ownsRow B e 1 v m xs := fun hh => own_block hh fun z hz => hk6.2 z (fun e => by
    obtain ⟨es, cl, hg, _⟩ := hM5
    exact own_map hh hg (e ▸ hz)) (hh.lt z hz).2
  refine ⟨rfl, _, hM6, ⟨hkg HGP.out.row, fun j hj => hkg (HGP.out.each j hj), HGP.out.apart⟩, ?_, ?_⟩
  · rw [← HSv.out]
    exact HSB.out
  · rw [← HSv.out]
    have hT6 : Turns (fun z => z = r) w5 w6 := ⟨hk6.1.os, hk6.1.tape, hk6.1.output, hk6.1.size, fun z hz hn => hk6.2 z hn hz⟩
    refine (HT5.out.trans hT6 fun z hz => .inl (.inl hz)).mono fun z hz => ?_
    rcases hz with h1 | h1 | h1
    · exact .inl h1
    · exact .inr (.inl (by rw [h1]; rfl))
    · exact .inr (.inr h1)
end Go.Proofs.YtppagdmlfgialaaGreatDoor
