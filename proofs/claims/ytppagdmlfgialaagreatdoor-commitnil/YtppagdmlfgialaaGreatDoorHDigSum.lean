/- A chain in bytes: the program's contract. -/
import Derived.Test.YtppagdmlfgialaaGreatDoorHRowf
import Derived.Handy
import Derived.OrdersHeld
import Derived.Tactics
import Derived.Laws.World
import Derived.ArgAppend
import Derived.Deep.RegionHeld
import Derived.Deep.RegionLaw
import Derived.Deep.RegionWith
import Derived.Deep.DrawnRows

namespace Go.Proofs.YtppagdmlfgialaaGreatDoor

def dig (x i : Nat) : Nat := x / 256 ^ i % 256
theorem dig_lt (x i : Nat) : dig x i < 256 := Nat.mod_lt _ (by decide)
/-- four bytes from a place on, as a number -/
def le4f (f : Nat → Nat) (o : Nat) : Nat := le4 (f o) (f (o + 1)) (f (o + 2)) (f (o + 3))
theorem le4f_lt (f : Nat → Nat) (o : Nat) (h : ∀ i, i < 4 → f (o + i) < 256) : le4f f o < 4294967296 := by
  have h0 := h 0 (by decide)
  have h1 := h 1 (by decide)
  have h2 := h 2 (by decide)
  have h3 := h 3 (by decide)
  unfold le4f le4
  simp only [Nat.add_zero] at h0
  omega
def St.of (f : Nat → Nat) : St := ⟨f 0, f 1, f 2, f 3, f 4, f 5, f 6, f 7, f 8, f 9, f 10, f 11, f 12, f 13, f 14, f 15⟩
theorem stA_of (f : Nat → Nat) : stA (St.of f) = va 16 (iv .u32 f) := rfl
theorem St.of_ok (f : Nat → Nat) (h : ∀ i, i < 16 → f i < 4294967296) : (St.of f).ok :=
  ⟨h 0 (by decide), h 1 (by decide), h 2 (by decide), h 3 (by decide), h 4 (by decide), h 5 (by decide), h 6 (by decide), h 7 (by decide), h 8 (by decide), h 9 (by decide), h 10 (by decide), h 11 (by decide), h 12 (by decide), h 13 (by decide), h 14 (by decide), h 15 (by decide)⟩
/-- the chain and the piece side by side -/
def sideN (c p : Nat → Nat) : Nat → Nat := fun i => if i < 8 then c i else le4f p (4 * (i - 8))
def mixedN (c p : Nat → Nat) : St := fwd (St.of (sideN c p)) 6
def pressN (c p : Nat → Nat) : Nat → Nat := fun i => c i ^^^ ((mixedN c p).at i ^^^ (mixedN c p).at (i + 8))
def okC (c : Nat → Nat) : Prop := ∀ i, i < 8 → c i < 4294967296
def okP (p : Nat → Nat) : Prop := ∀ i, i < 32 → p i < 256
theorem side_lt {c p : Nat → Nat} (hc : okC c) (hp : okP p) (i : Nat) (hi : i < 16) : sideN c p i < 4294967296 := by
  unfold sideN
  split
  · exact hc i (by omega)
  · exact le4f_lt p _ fun k hk => hp _ (by omega)
theorem mixed_ok {c p : Nat → Nat} (hc : okC c) (hp : okP p) : (mixedN c p).ok := fwd_ok _ (St.of_ok _ (side_lt hc hp)) _
theorem xlt32 {a b : Nat} (ha : a < 4294967296) (hb : b < 4294967296) : a ^^^ b < 4294967296 := Nat.xor_lt_two_pow (n := 32) ha hb
theorem press_ok {c p : Nat → Nat} (hc : okC c) (hp : okP p) : okC (pressN c p) := fun i hi =>
  xlt32 (hc i hi) (xlt32 ((mixedN c p).at_lt (mixed_ok hc hp) _) ((mixedN c p).at_lt (mixed_ok hc hp) _))
/-- the first chain -/
def firstN (tag i : Nat) : Nat := 2654435769 * (i + 1) % 4294967296 ^^^ tag * 16777216
theorem first_ok (tag : Nat) (h : tag < 256) : okC (firstN tag) := fun i _ => xlt32 (Nat.mod_lt _ (by decide)) (by omega)
/-- n pieces of a text taken in turn; the text told by a function of the place -/
def runN (c : Nat → Nat) (t : Nat → Nat) : Nat → Nat → Nat
  | 0 => c
  | n + 1 => pressN (runN c t n) fun j => t (32 * n + j)
theorem run_ok {c t : Nat → Nat} (hc : okC c) (ht : ∀ i, t i < 256) : ∀ n, okC (runN c t n)
  | 0 => hc
  | n + 1 => press_ok (run_ok hc ht n) fun _ _ => ht _
/-- a text with its end behind it: s tells its bytes, n its length -/
def padLen (n : Nat) : Nat := 32 * ((n + 8) / 32 + 1)
def padN (s : Nat → Nat) (n : Nat) : Nat → Nat := fun i =>
  if i < n then s i else if i = n then 128 else if i < padLen n - 8 then 0 else dig n (i - (padLen n - 8))
theorem padLen_ge (n : Nat) : n + 9 ≤ padLen n := by unfold padLen; omega
theorem padLen_lt (n : Nat) : padLen n < n + 41 := by unfold padLen; omega
theorem pad_lt (s : Nat → Nat) (n : Nat) (h : ∀ i, s i < 256) (i : Nat) : padN s n i < 256 := by
  unfold padN
  split
  · exact h i
  · split
    · decide
    · split
      · decide
      · exact dig_lt _ _
/-- the digest: its bytes -/
def chainN (tag : Nat) (s : Nat → Nat) (n : Nat) : Nat → Nat := runN (firstN tag) (padN s n) ((n + 8) / 32 + 1)
def sumN (c : Nat → Nat) : Nat → Nat := fun i => dig (c (i / 4)) (i % 4)
def ofN (tag : Nat) (s : Nat → Nat) (n : Nat) : Nat → Nat := sumN (chainN tag s n)
theorem sum_lt (c : Nat → Nat) (i : Nat) : sumN c i < 256 := dig_lt _ _
end Go.Proofs.YtppagdmlfgialaaGreatDoor

namespace Go.Proofs.YtppagdmlfgialaaGreatDoor
open Go.RowKit

theorem infoU8 : (Tryz.prog.info? 5).map (fun i => (i.zero, i.size, i.bytes)) = some (some (.int .u8 0), 1, 1) := by kernel_rfl

set_option maxHeartbeats 1000000 in
theorem bytes32_any (x : Nat) (w : World) :
    Calls Tryz.prog 238 #[.int .u32 (x : Int)] w fun e w' => e = .returned (.agg #[.int .u8 ((x % 256 : Nat) : Int), .int .u8 ((x / 256 % 256 : Nat) : Int), .int .u8 ((x / 65536 % 256 : Nat) : Int), .int .u8 ((x / 16777216 % 256 : Nat) : Int)]) ∧ Below w.heap.size w w' := by
  go_enter Tryz.func238, Tryz.ntmps238
  go_wp2
  go_rounds 5
  go_returns
  refine ⟨by simp, ?_⟩
  go_grown

set_option maxHeartbeats 1000000 in
theorem of32_any (a0 a1 a2 a3 : Nat) (h0 : a0 < 256) (h1 : a1 < 256) (h2 : a2 < 256) (h3 : a3 < 256) (w : World) :
    Calls Tryz.prog 339 #[.agg #[.int .u8 (a0 : Int), .int .u8 (a1 : Int), .int .u8 (a2 : Int), .int .u8 (a3 : Int)]] w fun e w' => e = .returned (.int .u32 (le4 a0 a1 a2 a3 : Int)) ∧ Below w.heap.size w w' := by
  go_enter Tryz.func339, Tryz.ntmps339
  go_wp2
  go_rounds 5
  go_returns
  refine ⟨ret_int (of4_val a0 a1 a2 a3 h0 h1 h2 h3), ?_⟩
  go_grown

set_option maxHeartbeats 1000000 in
theorem refBytes_own (n k : Nat) (hk : k ≤ 8) (hn : n < 18446744073709551616) (w : World) :
    Calls Tryz.prog 92 #[.int .u64 (n : Int), .int .i64 (k : Int)] w fun e w' => ∃ v, e = .returned v ∧ w'.ownsRow w.heap.size 5 1 v k ((digs n k).map (Value.int .u8)) ∧ Below w.heap.size w w' := by
  obtain ⟨i0, hi, hz0, hz1, hz2⟩ := info_parts infoU8
  go_enter Tryz.func92, Tryz.ntmps92
  go_wp2
  go_loopw [0, 5, 6] (fun m v i wr => ∃ j : Nat, j ≤ k ∧ i = .int .i64 j ∧ m = .int .u64 ((n / 256 ^ j : Nat) : Int) ∧ wr.ownsRow w.heap.size 5 1 v j ((digs n j).map (Value.int .u8)) ∧ Below w.heap.size w wr) (fun _ _ i _ => k - (intOf i).toNat)
  case atStart =>
    refine ⟨0, by omega, rfl, by simp, ?_, (Below.refl _ _).alloc (Nat.le_refl _) _⟩
    exact World.ownsRow_lit w #[] 0 (Nat.le_refl _) (by decide) rfl
  case round =>
    obtain ⟨j, hj, rfl, rfl, hown, hbel⟩ := hrel
    by_cases hlt : j < k
    · have hv := hown.lt
      have hqn : n / 256 ^ j ≤ n := Nat.div_le_self _ _
      have HD := digs_succ n j
      have HQ : n / 256 ^ (j + 1) = n / 256 ^ j / 256 := by rw [Nat.pow_succ, Nat.div_div_eq_div_mul]
      generalize hq : n / 256 ^ j = q at *
      have HD' : Hid (digs n (j + 1) = digs n j ++ [((q % 256 : Nat) : Int)]) := HD
      have HQ' : Hid (n / 256 ^ (j + 1) = q / 256) := HQ
      clear HD HQ hq
      go_wp2_with (first
        | (at_builtin; refine wpList_append_own _ rfl _ _ 206 rfl w.heap.size 5 i0 (.int .u8 0) 1 1 Tryz.underlying206 hi hz0 hz1 hz2 rfl (by decide) _ _ _ rfl (hown.alloc _) ⟨wr.heap.size, 0, none⟩ 1 1 [.int .u8 ((q : Int) % 256)] rfl rfl (cell_one_new _ _ _) (fun x hx => by simp at hx; subst hx; rfl) (by unfold maxLen; omega) (by omega) (by have := hbel.size; simp; omega) ?_)
        | go_in)
      intro v' w1 hown' hgrow _
      have hb1 : Below w.heap.size w w1 := (hbel.alloc (by have := hbel.size; omega) _).grown hgrow (by have := hbel.size; simp; omega) (fun k hk => (hv k hk).1)
      clear hown hv hgrow hbel
      go_wp2
      go_roundw
      case rel =>
        refine ⟨j + 1, by omega, by go_num, ?_, ?_, hb1⟩
        · rw [HQ'.out]; simp
        · rw [HD'.out]; simpa using hown'
      case measure => simp [intOf]; omega
    · go_wp2
      go_ret
      have : j = k := by omega
      subst this
      exact ⟨_, rfl, hown, hbel⟩

set_option maxHeartbeats 1000000 in
theorem refOf32_at (b o c a0 a1 a2 a3 : Nat) (w : World) (h0 : a0 < 256) (h1 : a1 < 256) (h2 : a2 < 256) (h3 : a3 < 256) (c0 : w.cell? ⟨b, o, none⟩ = some (.int .u8 (a0 : Int))) (c1 : w.cell? ⟨b, o + 1, none⟩ = some (.int .u8 (a1 : Int))) (c2 : w.cell? ⟨b, o + 2, none⟩ = some (.int .u8 (a2 : Int))) (c3 : w.cell? ⟨b, o + 3, none⟩ = some (.int .u8 (a3 : Int))) :
    Calls Tryz.prog 212 #[.slice (some ⟨b, o, none⟩) 4 c] w fun e w' => e = .returned (.int .u64 (le4 a0 a1 a2 a3 : Int)) ∧ w' = w := by
  go_enter Tryz.func212, Tryz.ntmps212
  go_wp2
  go_rounds 5
  go_returns
  refine ⟨ret_int ?_, rfl⟩
  unfold le4
  omega

theorem va4 (f : Nat → Value) : va 4 f = #[f 0, f 1, f 2, f 3] := rfl
theorem bytes32_va (x : Nat) (w : World) :
    Calls Tryz.prog 238 #[.int .u32 (x : Int)] w fun e w' => e = .returned (.agg (va 4 (iv .u8 (dig x)))) ∧ Below w.heap.size w w' := by
  refine (bytes32_any x w).mono ?_
  rintro e w' ⟨rfl, hb⟩
  refine ⟨?_, hb⟩
  simp [va4, iv, dig]
end Go.Proofs.YtppagdmlfgialaaGreatDoor

namespace Go.Proofs.YtppagdmlfgialaaGreatDoor
open Go

section
variable {P : Program} {ops : Array Oper} {Q : Exit → Act → World → Prop} {md : Region.Mode}

/-- only the plain way out -/
def Strict (Q : Exit → Act → World → Prop) : Exit → Act → World → Prop := fun e a w => e = .normal ∧ Q .normal a w
theorem Strict.imp (e : Exit) (a : Act) (w : World) (h : Strict Q e a w) : Q e a w := by
  obtain ⟨rfl, h⟩ := h; exact h
theorem Strict.noOut : ¬ LetsOut (Strict Q) := by
  rintro ⟨a, w, h, _⟩; cases h

/-- what is run leaves the world, and would do the same in any world -/
def Pur {α : Type} (P : Program) (s : Sem α) : Prop := ∀ w n w', s.run P w = .ok n w' → w' = w ∧ ∀ w2, s.run P w2 = .ok n w2
/-- what is run leaves the world -/
def Rds {α : Type} (P : Program) (s : Sem α) : Prop := ∀ w n w', s.run P w = .ok n w' → w' = w
/-- what is run never ends well -/
def Nev {α : Type} (P : Program) (s : Sem α) : Prop := ∀ w n w', s.run P w ≠ .ok n w'

theorem Pur.rds {α : Type} {s : Sem α} (h : Pur P s) : Rds P s := fun w n w' e => (h w n w' e).1
theorem Nev.pur {α : Type} {s : Sem α} (h : Nev P s) : Pur P s := fun w n w' e => absurd e (h w n w')
theorem pur_pure {α : Type} (x : α) : Pur P (pure x : Sem α) := fun w n w' e => by
  rw [Sem.run_pure] at e; cases e; exact ⟨rfl, fun w2 => by rw [Sem.run_pure]⟩
theorem pur_halt {α : Type} (h : Halt) : Pur P (Sem.halt h : Sem α) := fun w n w' e => by simp [Sem.run] at e
theorem Pur.bind {α β : Type} {s : Sem α} {f : α → Sem β} (h : Pur P s) (hf : ∀ x, Pur P (f x)) : Pur P (s >>= f) := fun w n w' e => by
  rw [Sem.run_bind] at e
  cases hs : s.run P w with
  | ok x w1 =>
    rw [hs] at e
    obtain ⟨rfl, h2⟩ := h w x w1 hs
    simp only [Result.andThen_ok] at e
    obtain ⟨rfl, h3⟩ := hf x _ _ _ e
    exact ⟨rfl, fun w2 => by rw [Sem.run_bind, h2 w2]; simp only [Result.andThen_ok]; exact h3 w2⟩
  | halt x w1 => rw [hs] at e; simp [Result.andThen] at e
theorem Rds.bind {α β : Type} {s : Sem α} {f : α → Sem β} (h : Rds P s) (hf : ∀ x, Rds P (f x)) : Rds P (s >>= f) := fun w n w' e => by
  rw [Sem.run_bind] at e
  cases hs : s.run P w with
  | ok x w1 =>
    rw [hs] at e
    have h2 := h w x w1 hs
    subst h2
    simp only [Result.andThen_ok] at e
    exact hf x _ _ _ e
  | halt x w1 => rw [hs] at e; simp [Result.andThen] at e
theorem Nev.bind {α β : Type} {s : Sem α} {f : α → Sem β} (hf : ∀ x, Nev P (f x)) : Nev P (s >>= f) := fun w n w' e => by
  rw [Sem.run_bind] at e
  cases hs : s.run P w with
  | ok x w1 => rw [hs] at e; simp only [Result.andThen_ok] at e; exact hf x _ _ _ e
  | halt x w1 => rw [hs] at e; simp [Result.andThen] at e
theorem pur_program : Pur P program := fun w n w' e => by
  simp only [program, Sem.run] at e; cases e; exact ⟨rfl, fun w2 => by simp only [program, Sem.run]⟩
theorem nev_bounds {α : Type} (k : IntKind) (x y : Int) (c : BoundsCode) : Nev P (boundsPanic k x y c : Sem α) := by
  have J : ∀ s : Bool, Nev P (runtimePanic (.bounds (IntKind.i64.wrap x) y s c) : Sem α) := fun s => by
    unfold runtimePanic
    refine Nev.bind fun p => ?_
    intro w n w' e
    simp [goPanic] at e
  unfold boundsPanic
  dsimp only
  split <;> exact Nev.bind fun s => J s
theorem pur_underlying (t : TypeId) : Pur P (underlying t) := by
  unfold underlying
  refine pur_program.bind fun p => ?_
  cases p.underlying t with
  | none => exact pur_halt _
  | some d => exact pur_pure d
theorem pur_sizeOf (t : TypeId) : Pur P (sizeOf t) := by
  unfold sizeOf typeInfo
  refine Pur.bind (pur_program.bind fun p => ?_) fun i => pur_pure _
  cases p.info? t with
  | none => exact pur_halt _
  | some d => exact pur_pure d
theorem pur_sure (v : Value) : Pur P (Instr.sureAddr v) := by
  unfold Instr.sureAddr
  split
  · exact pur_pure _
  · exact pur_halt _
theorem pur_index (t : TypeId) (x i : Value) : Pur P (Instr.indexAt t x i) := by
  unfold Instr.indexAt
  refine Pur.bind ?_ fun ki => ?_
  · unfold asIntOf; split
    · exact pur_pure _
    · exact pur_halt _
    · exact pur_halt _
  · refine (pur_underlying t).bind fun d => ?_
    dsimp only
    split
    · refine (pur_sure _).bind fun _ => (pur_pure _).bind fun q => ?_
      refine (pur_underlying t).bind fun d2 => ?_
      split
      · split
        · exact (pur_sizeOf _).bind fun _ => pur_pure _
        · split <;> split <;> first | exact pur_halt _ | exact (nev_bounds _ _ _ _).pur
      · exact (nev_bounds _ _ _ _).pur
    · refine (pur_pure _).bind fun q => ?_
      refine (pur_underlying t).bind fun d2 => ?_
      split
      · split
        · exact (pur_sizeOf _).bind fun _ => pur_pure _
        · split <;> split <;> first | exact pur_halt _ | exact (nev_bounds _ _ _ _).pur
      · exact (nev_bounds _ _ _ _).pur
    · refine (pur_halt _).bind fun q => ?_
      refine (pur_underlying t).bind fun d2 => ?_
      split
      · split
        · exact (pur_sizeOf _).bind fun _ => pur_pure _
        · split <;> split <;> first | exact pur_halt _ | exact (nev_bounds _ _ _ _).pur
      · exact (nev_bounds _ _ _ _).pur
theorem pur_extract (v : Value) (i : Nat) : Pur P (Instr.extract v i) := by
  unfold Instr.extract
  split
  · split
    · exact pur_pure _
    · exact pur_halt _
  · exact pur_halt _
theorem rds_load (a : Addr) : Rds P (load a) := fun w n w' e => by
  simp only [load, Sem.run] at e
  split at e
  · cases e; rfl
  · split at e
    · cases e; rfl
    · cases e
theorem rds_cells (a : Addr) : ∀ (n i : Nat) (acc : Array Value), Rds P (loadCellsFrom a i n acc)
  | 0, _, acc => (pur_pure acc).rds
  | n + 1, i, acc => (rds_load _).bind fun v => rds_cells a n (i + 1) (acc.push v)
theorem rds_loadAt (t : TypeId) (v : Value) : Rds P (Instr.loadAt t v) := by
  unfold Instr.loadAt loadVar
  refine (pur_sure v).rds.bind fun a => Rds.bind ?_ fun b => ?_
  · unfold isAgg
    refine (pur_underlying t).rds.bind fun d => ?_
    split <;> exact (pur_pure _).rds
  · split
    · exact (pur_sizeOf t).rds.bind fun n => (rds_cells a n 0 #[]).bind fun c => (pur_pure _).rds
    · exact rds_load a

/-- an operation that yields its value in whatever world -/
def kindW (o : Oper) : Bool := match o.op with
  | .move _ => true
  | .extract .. => true
  | .indexAddr .. => true
  | _ => false
/-- an operation that reads at most -/
def kindR (o : Oper) : Bool := kindW o || match o.op with
  | .load .. => true
  | _ => false

theorem kindW_run {o : Oper} (h : kindW o = true) (ρ : Operand → Value) : Pur P (execOp ρ o) ∧ ∀ w n w', (execOp ρ o).run P w = .ok n w' → ∃ v, n = .value v := by
  unfold kindW at h
  split at h <;> rename_i hop
  · unfold execOp; simp only [hop]
    exact ⟨pur_pure _, fun w n w' e => by rw [Sem.run_pure] at e; cases e; exact ⟨_, rfl⟩⟩
  · unfold execOp; simp only [hop]
    exact ⟨(pur_extract _ _).bind fun v => pur_pure _, fun w n w' e => by
      rw [Sem.run_bind] at e
      cases hs : (Instr.extract (ρ _) _).run P w with
      | ok x w1 => rw [hs] at e; simp only [Result.andThen_ok, Sem.run_pure] at e; cases e; exact ⟨_, rfl⟩
      | halt x w1 => rw [hs] at e; simp [Result.andThen] at e⟩
  · unfold execOp; simp only [hop]
    exact ⟨(pur_index _ _ _).bind fun v => pur_pure _, fun w n w' e => by
      rw [Sem.run_bind] at e
      cases hs : (Instr.indexAt _ (ρ _) (ρ _)).run P w with
      | ok x w1 => rw [hs] at e; simp only [Result.andThen_ok, Sem.run_pure] at e; cases e; exact ⟨_, rfl⟩
      | halt x w1 => rw [hs] at e; simp [Result.andThen] at e⟩
  · cases h

theorem kindR_run {o : Oper} (h : kindR o = true) (ρ : Operand → Value) : Rds P (execOp ρ o) ∧ ∀ w n w', (execOp ρ o).run P w = .ok n w' → ∃ v, n = .value v := by
  unfold kindR at h
  rw [Bool.or_eq_true] at h
  rcases h with h | h
  · exact ⟨(kindW_run h ρ).1.rds, (kindW_run h ρ).2⟩
  · split at h <;> rename_i hop
    · unfold execOp; simp only [hop]
      exact ⟨(rds_loadAt _ _).bind fun v => (pur_pure _).rds, fun w n w' e => by
        rw [Sem.run_bind] at e
        cases hs : (Instr.loadAt _ (ρ _)).run P w with
        | ok x w1 => rw [hs] at e; simp only [Result.andThen_ok, Sem.run_pure] at e; cases e; exact ⟨_, rfl⟩
        | halt x w1 => rw [hs] at e; simp [Result.andThen] at e⟩
    · cases h

/-- what the walk's step says of an operation that reads at most -/
theorem wpOp_read {i : Nat} {o : Oper} (hi : ops[i]? = some o) (hk : kindR o = true) {K : Act → World → Prop} {a : Act} {w : World} (h : wpOp P ops (Strict Q) i K a w) :
    ∃ v, K (a.put o.dst v) w ∧ ((Region.wanted o (yielded ops a.tmps) = true ∧ (execOp a.eval o).run P w = .ok (.value v) w) ∨ (Region.wanted o (yielded ops a.tmps) = false ∧ v = undef)) := by
  unfold wpOp at h
  simp only [hi] at h
  by_cases hw : Region.wanted o (yielded ops a.tmps) = true
  · simp only [hw, if_true] at h
    rcases h with h | ⟨_, h⟩
    · unfold Oper.wp at h
      obtain ⟨hr, hv⟩ := kindR_run (P := P) hk a.eval
      cases hs : (execOp a.eval o).run P w with
      | ok n w1 =>
        obtain ⟨v, rfl⟩ := hv _ _ _ hs
        have := hr _ _ _ hs
        subst this
        rw [hs, Oper.upon_value] at h
        exact ⟨v, h, .inl ⟨hw, rfl⟩⟩
      | halt x w1 =>
        rw [hs] at h
        cases x <;> simp only [Oper.upon, Strict] at h <;> first | exact absurd h.1 (by intro e; cases e) | exact h.elim
    · exact absurd h Strict.noOut
  · rw [Bool.not_eq_true] at hw
    simp only [hw, Bool.false_eq_true, if_false] at h
    exact ⟨undef, h, .inr ⟨hw, rfl⟩⟩

theorem wpOp_stays {i : Nat} {o : Oper} (hi : ops[i]? = some o) (hk : kindR o = true) {K : Act → World → Prop} {a : Act} {w : World} (h : wpOp P ops (Strict Q) i K a w) :
    wpOp P ops (Strict Q) i (fun a' w' => w' = w ∧ K a' w') a w := by
  obtain ⟨v, hK, ⟨hw, hr⟩ | ⟨hw, rfl⟩⟩ := wpOp_read hi hk h
  · unfold wpOp
    simp only [hi, hw, if_true, Oper.wp, hr, Oper.upon_value]
    exact .inl ⟨trivial, hK⟩
  · unfold wpOp
    simp only [hi, hw, Bool.false_eq_true, if_false]
    exact ⟨trivial, hK⟩

theorem strict_frame (d : Option Tmp) (v : Value) : ∀ c a w, Strict Q (.panic c) (a.put d v) w → Strict Q (.panic c) a w := fun c a w h => absurd h.1 (by intro e; cases e)

/-- a load is taken first: those that may come before it read only -/
theorem wpAny_read {i : Nat} {oi : Oper} {v : Value} (hi : ops[i]? = some oi) (hsel : ∀ (j : Nat) (o : Oper) cs b, ops[j]? = some o → o.op ≠ .select cs b) (wt : Nat → Bool)
    (hB : ∀ j oj, ops[j]? = some oj → wt j = true → j ≠ i → ∃ e ∈ oj.after, Region.binds md e = true ∧ wt e.on = true) :
    ∀ (fuel : Nat) (listed : Array Bool) (a : Act) (w : World),
      (∀ j oj, ops[j]? = some oj → j ≠ i → listed.getD j true = false → (∀ e ∈ oj.after, Region.binds md e = true → e.on ≠ i) → oi.apart ops oj = true) →
      (∀ j, wt j = true → listed.getD j true = false) →
      (∀ j oj, ops[j]? = some oj → wt j = false → listed.getD j true = false → kindR oj = true) →
      i ∈ Region.ready md ops listed → YieldsIf P ops (fun x => x = w) oi v a →
      wpAny P md ops (Strict Q) fuel (listed.setIfInBounds i true) (a.put oi.dst v) w → wpAny P md ops (Strict Q) (fuel + 1) listed a w := by
  intro fuel
  induction fuel with
  | zero =>
    intro listed a w _ _ _ hr hy H
    refine ⟨fun h => (by rw [h] at hr; cases hr), fun j hj => ?_⟩
    by_cases hji : j = i
    · subst hji; exact hy.wpOp hi rfl H
    · have := ready_mono hj hji
      rw [H.1] at this
      cases this
  | succ fuel ih =>
    intro listed a w hfree hC hD hr hy H
    refine ⟨fun h => (by rw [h] at hr; cases hr), fun j hj => ?_⟩
    by_cases hji : j = i
    · subst hji; exact hy.wpOp hi rfl H
    · have h1 := H.2 j (ready_mono hj hji)
      obtain ⟨hjun, oj, hoj, hall⟩ := mem_ready.1 hj
      have hpend : ∀ k, listed.getD k true = false → listed.getD k false = true → False := fun k h0 h1 => by
        rcases Nat.lt_or_ge k listed.size with h' | h'
        · simp [h'] at h0 h1; rw [h0] at h1; cases h1
        · simp [Array.getElem?_eq_none h'] at h1
      have hnot : ∀ e ∈ oj.after, Region.binds md e = true → e.on ≠ i := fun e he hb heq => by
        have h1 := hall e he hb
        rw [heq] at h1
        exact hpend i (mem_ready.1 hr).1 h1
      have hwt : wt j = false := by
        cases hq : wt j with
        | false => rfl
        | true =>
          obtain ⟨e, he, hb, hw⟩ := hB j oj hoj hq hji
          exact (hpend e.on (hC _ hw) (hall e he hb)).elim
      have h2 := wpOp_putIf (S := fun x => x = w) hoj (hfree j oj hoj hji hjun hnot) (fun cs b => hsel i oi cs b hi) (fun cs b => hsel j oj cs b hoj) (strict_frame _ _) hy h1
      have h3 := wpOp_stays hoj (hD j oj hoj hwt hjun) h2
      refine wpOp_mono (fun a' w' h4 => ?_) h3
      obtain ⟨rfl, hy', hK⟩ := h4
      have hun : ∀ k, (listed.setIfInBounds j true).getD k true = false → listed.getD k true = false := fun k hk => by
        by_cases hjk : j = k
        · subst hjk; exact hjun
        · rw [getD_set_ne true hjk] at hk; exact hk
      refine ih (listed.setIfInBounds j true) a' w' (fun k ok hk hki hu hno => hfree k ok hk hki (hun k hu) hno) (fun k hk => ?_) (fun k ok hk hw hu => hD k ok hk hw (hun k hu)) (ready_mono hr (Ne.symm hji)) hy' ?_
      · rw [getD_set_ne true (fun e => by subst e; rw [hwt] at hk; cases hk)]; exact hC k hk
      · rw [Array.setIfInBounds_comm _ _ hji]
        exact hK

/-- which operations wait for number i, as far as the edges that go back tell -/
def waitArr (md : Region.Mode) (ops : Array Oper) (listed : Array Bool) (i : Nat) : Array Bool :=
  (List.range ops.size).foldl (fun wt j => wt.push (j == i || (!listed.getD j true && match ops[j]? with
    | some o => o.after.any fun e => Region.binds md e && wt.getD e.on false
    | none => false))) #[]
def waitB (md : Region.Mode) (ops : Array Oper) (listed : Array Bool) (i : Nat) (wt : Array Bool) : Bool :=
  (List.range ops.size).all fun j => match ops[j]? with
    | some o => if wt.getD j false then (j == i || o.after.any fun e => Region.binds md e && wt.getD e.on false && decide (e.on < ops.size)) && !listed.getD j true else listed.getD j true || kindR o
    | none => true
def takeB (md : Region.Mode) (ops : Array Oper) (listed : Array Bool) (i : Nat) : Bool :=
  match ops[i]? with
  | some o => (Region.ready md ops listed).contains i && Region.free md ops listed i && (kindW o || (kindR o && waitB md ops listed i (waitArr md ops listed i)))
  | none => false
def stepB (md : Region.Mode) (ops : Array Oper) (listed : Array Bool) (i : Nat) : Bool :=
  takeB md ops listed i || (Region.ready md ops listed == [i] && (ops[i]?).isSome)
def ordB (md : Region.Mode) (ops : Array Oper) : List Nat → Array Bool → Bool
  | [], listed => (Region.ready md ops listed).isEmpty
  | i :: rest, listed => stepB md ops listed i && ordB md ops rest (listed.setIfInBounds i true)

theorem wpAny_step {i : Nat} {fuel : Nat} {listed : Array Bool} {a : Act} {w : World} (hs : Region.noSelect ops = true) (hb : stepB md ops listed i = true)
    (h : wpOp P ops (Strict Q) i (wpAny P md ops (Strict Q) fuel (listed.setIfInBounds i true)) a w) : wpAny P md ops (Strict Q) (fuel + 1) listed a w := by
  unfold stepB at hb
  rw [Bool.or_eq_true] at hb
  rcases hb with hb | hb
  · unfold takeB at hb
    cases hi : ops[i]? with
    | none => rw [hi] at hb; cases hb
    | some o =>
      rw [hi] at hb
      simp only [Bool.and_eq_true, Bool.or_eq_true] at hb
      obtain ⟨⟨hr, hf⟩, hk⟩ := hb
      rcases hk with hk | ⟨hk, hwait⟩
      · have hkr : kindR o = true := by unfold kindR; rw [hk]; rfl
        obtain ⟨v, hK, hy⟩ := wpOp_read hi hkr h
        refine wpAny_take hi hs hf hr (strict_frame _ _) (v := v) ?_ hK
        rcases hy with ⟨hw, hrun⟩ | hy
        · exact .inl ⟨hw, ((kindW_run (P := P) hk a.eval).1 _ _ _ hrun).2⟩
        · exact .inr hy
      · obtain ⟨v, hK, hy⟩ := wpOp_read hi hk h
        generalize hwt : waitArr md ops listed i = arr at hwait
        unfold waitB at hwait
        rw [List.all_eq_true] at hwait
        have hall : ∀ j oj, ops[j]? = some oj → (if arr.getD j false then (j == i || oj.after.any fun e => Region.binds md e && arr.getD e.on false && decide (e.on < ops.size)) && !listed.getD j true else listed.getD j true || kindR oj) = true := fun j oj hj => by
          have h1 := hwait j (List.mem_range.2 (Array.getElem?_eq_some_iff.1 hj).1)
          rw [hj] at h1; exact h1
        have hin : ∀ j, decide (j < ops.size) = true → ∃ oj, ops[j]? = some oj := fun j hj => ⟨_, Array.getElem?_eq_getElem (of_decide_eq_true hj)⟩
        refine wpAny_read hi (Region.noSelect_spec hs) (fun j => arr.getD j false && decide (j < ops.size)) (v := v) ?_ fuel listed a w (Region.free_spec hi hf) ?_ ?_ (by simpa using hr) ?_ hK
        · intro j oj hj hw hne
          simp only [Bool.and_eq_true] at hw
          have h1 := hall j oj hj
          rw [if_pos hw.1] at h1
          simp only [Bool.and_eq_true, Bool.or_eq_true, beq_iff_eq, hne, false_or] at h1
          obtain ⟨e, he, hb⟩ := Array.any_eq_true'.1 h1.1
          simp only [Bool.and_eq_true] at hb
          exact ⟨e, he, hb.1.1, by simp only [Bool.and_eq_true]; exact ⟨hb.1.2, hb.2⟩⟩
        · intro j hw
          simp only [Bool.and_eq_true] at hw
          obtain ⟨oj, hj⟩ := hin j hw.2
          have h1 := hall j oj hj
          rw [if_pos hw.1] at h1
          simp only [Bool.and_eq_true, Bool.not_eq_true'] at h1
          exact h1.2
        · intro j oj hj hw hu
          have hlt : decide (j < ops.size) = true := decide_eq_true (Array.getElem?_eq_some_iff.1 hj).1
          rw [hlt, Bool.and_true] at hw
          have h1 := hall j oj hj
          rw [if_neg (by rw [hw]; decide), hu, Bool.false_or] at h1
          exact h1
        · rcases hy with ⟨hw, hrun⟩ | hy
          · exact .inl ⟨hw, fun x hx => by subst hx; exact hrun⟩
          · exact .inr hy
  · simp only [Bool.and_eq_true, beq_iff_eq] at hb
    exact wpAny_all hb.1 (by simp) (fun j hj => by
      have : j = i := by simpa using hj
      subst this; exact h)

theorem wpAny_ord (hs : Region.noSelect ops = true) : ∀ (ord : List Nat) (listed : Array Bool) (a : Act) (w : World), ordB md ops ord listed = true →
    wpOps P ops (Strict Q) ord a w → wpAny P md ops (Strict Q) ord.length listed a w
  | [], listed, a, w, hb, h => ⟨by simpa [ordB] using hb, h⟩
  | i :: rest, listed, a, w, hb, h => by
    simp only [ordB, Bool.and_eq_true] at hb
    rw [wpOps_cons] at h
    exact wpAny_step hs hb.1 (wpOp_mono (fun a' w' h' => wpAny_ord hs rest _ a' w' hb.2 h') h)

/-- the order by numbers -/
def regionB (ops : Array Oper) (ord : List Nat) : Bool := ord.length == ops.size && Region.noSelect ops && ordB .any ops ord (Array.replicate ops.size false)

/-- THE LAW, in the order of the text: the region as one that does not draw. -/
theorem wp_region_text {id : Nat} {l : List Oper} {a : Act} {w : World} (hm : P.follows .mixedOrders = true) (hB : regionB l.toArray (List.range l.length) = true)
    (h : wpList P l.toArray (Strict Q) l a w.drew) : (Code.region id l.toArray true).wp P Q a w := by
  unfold regionB at hB
  simp only [Bool.and_eq_true, beq_iff_eq] at hB
  refine Code.wp_mono Strict.imp (wp_region_any hm ?_)
  rw [← hB.1.1]
  refine wpAny_ord hB.1.2 _ _ a _ (by rw [hB.1.1]; exact hB.2) ?_
  rw [List.range_eq_range', wpOps_eq_wpList l 0 (fun j => by simp)]
  exact h

end
end Go.Proofs.YtppagdmlfgialaaGreatDoor

namespace Go.Proofs.YtppagdmlfgialaaGreatDoor
open Go.RowKit
set_option linter.unusedSimpArgs false

theorem first_val (tag k : Nat) (ht : tag < 256) : bits .xor .u32 (2654435769 * ((k : Int) + 1) % 4294967296) ((tag : Int) * 16777216) = (firstN tag k : Int) := by
  have := u32_xor_nat (2654435769 * (k + 1) % 4294967296) (tag * 16777216) (Nat.mod_lt _ (by decide)) (by omega)
  unfold firstN
  rw [← this]
  congr 1
end Go.Proofs.YtppagdmlfgialaaGreatDoor

namespace Go.Proofs.YtppagdmlfgialaaGreatDoor
open Go Go.RowKit

/-- F, and from place a on m places of G -/
def overF (F : Nat → Value) (a m : Nat) (G : Nat → Value) : Nat → Value := fun i => if a ≤ i ∧ i < a + m then G (i - a) else F i
theorem splice_range (n a m : Nat) (F G : Nat → Value) (h : a + m ≤ n) :
    splice ((List.range n).map F) a ((List.range m).map G) = (List.range n).map (overF F a m G) := by
  apply List.ext_getElem?
  intro i
  unfold splice
  have l1 : (((List.range n).map F).take a).length = a := by simp; omega
  have l2 : ((List.range m).map G).length = m := by simp
  by_cases h1 : i < a
  · rw [List.getElem?_append_left (by omega), List.getElem?_take_of_lt h1]
    have : overF F a m G i = F i := if_neg (by omega)
    simp [show i < n by omega, this]
  · rw [List.getElem?_append_right (by omega), l1]
    by_cases h2 : i < a + m
    · rw [List.getElem?_append_left (by omega)]
      have : overF F a m G i = G (i - a) := if_pos (by omega)
      simp [show i < n by omega, show i - a < m by omega, this]
    · rw [List.getElem?_append_right (by omega), List.getElem?_drop, l2, show a + m + (i - a - m) = i from by omega]
      have : overF F a m G i = F i := if_neg (by omega)
      by_cases h3 : i < n
      · simp [h3, this]
      · simp [h3]
theorem splice_va (n a m : Nat) (F G : Nat → Value) (h : a + m ≤ n) : (splice ((List.range n).map F) a ((List.range m).map G)).toArray = va n (overF F a m G) := by
  rw [splice_range n a m F G h]; rfl
theorem mem_iv_one (κ : IntKind) (m : Nat) (f : Nat → Nat) : ∀ v ∈ (List.range m).map (fun j => Value.int κ ((f j : Nat) : Int)), v.oneCell' = true := fun v hv => by
  obtain ⟨j, _, rfl⟩ := List.mem_map.1 hv
  rfl
end Go.Proofs.YtppagdmlfgialaaGreatDoor

namespace Go.Proofs.YtppagdmlfgialaaGreatDoor
open Go.RowKit
set_option linter.unusedSimpArgs false
set_option linter.unusedVariables false

/-- the bytes up to place m -/
def zeroN (s : Nat → Nat) (n : Nat) : Nat → Nat := fun j => if j < n then s j else if j = n then 128 else 0
def bytesL (f : Nat → Nat) (m : Nat) : List Value := (List.range m).map fun j => Value.int .u8 ((f j : Nat) : Int)
theorem bytesL_succ (f : Nat → Nat) (m : Nat) : bytesL f (m + 1) = bytesL f m ++ [Value.int .u8 ((f m : Nat) : Int)] := by simp [bytesL, List.range_succ]
theorem bytesL_length (f : Nat → Nat) (m : Nat) : (bytesL f m).length = m := by simp [bytesL]
theorem bytesL_at (f : Nat → Nat) (m j : Nat) (h : j < m) : (bytesL f m)[j]? = some (.int .u8 ((f j : Nat) : Int)) := by simp [bytesL, h]
theorem bytesL_congr {f g : Nat → Nat} {m : Nat} (h : ∀ j, j < m → f j = g j) : bytesL f m = bytesL g m := List.map_congr_left fun j hj => by rw [h j (List.mem_range.1 hj)]
theorem bytesL_add (f : Nat → Nat) (m : Nat) : ∀ k, bytesL f (m + k) = bytesL f m ++ bytesL (fun j => f (m + j)) k
  | 0 => by simp [bytesL]
  | k + 1 => by rw [← Nat.add_assoc, bytesL_succ, bytesL_add f m k, bytesL_succ, List.append_assoc]

theorem own_mono {w : World} {B B' e size n : Nat} {v : Value} {xs : List Value} (h : w.ownsRow B e size v n xs) (hB : B' ≤ B) : w.ownsRow B' e size v n xs :=
  ⟨h.1, h.2.imp id fun ⟨g, cap, cur, a, b, r⟩ => ⟨g, cap, cur, a, Nat.le_trans hB b, r⟩⟩
theorem own_form {w : World} {B e size n : Nat} {v : Value} {xs : List Value} (h : w.ownsRow B e size v n xs) (hn : 0 < n) : ∃ g cap, v = .slice (some ⟨g, 0, none⟩) n cap ∧ B ≤ g ∧ g < w.heap.size := by
  rcases h.2 with ⟨_, h0⟩ | ⟨g, cap, cur, rfl, hb, hg, _⟩
  · omega
  · exact ⟨g, cap, rfl, hb, (Array.getElem?_eq_some_iff.1 hg).1⟩
end Go.Proofs.YtppagdmlfgialaaGreatDoor

namespace Go.Proofs.YtppagdmlfgialaaGreatDoor
open Go.RowKit
set_option linter.unusedSimpArgs false
set_option linter.unusedVariables false

/-- a hasher's cells -/
def hashV (c p : Nat → Nat) (m : Nat) : Nat → Value := fun i => if i < 8 then .int .u32 ((c i : Nat) : Int) else if i < 40 then .int .u8 ((p (i - 8) : Nat) : Int) else .int .i64 (m : Int)

end Go.Proofs.YtppagdmlfgialaaGreatDoor

namespace Go.Proofs.YtppagdmlfgialaaGreatDoor
open Go Go.RowKit

/-- the byte of a text at a place -/
def byteAt (s : ByteArray) (i : Nat) : Nat := (s.data.toList.getD i 0).toNat
theorem byteAt_lt (s : ByteArray) (j : Nat) : byteAt s j < 256 := UInt8.toNat_lt _
section
variable {P : Program}
end
end Go.Proofs.YtppagdmlfgialaaGreatDoor

namespace Go.Proofs.YtppagdmlfgialaaGreatDoor
open Go.RowKit

theorem left_at (x y : Nat) (i : Int) (s : Nat) (hs : i = (s : Int)) (hs2 : s < 32) (w : World) (hx : x < 4294967296) (h : turnN x s = y) :
    Calls Tryz.prog 329 #[.int .u32 x, .int .i64 i] w fun e w' => e = .returned (.int .u32 y) ∧ w' = w := by
  subst hs; exact left_to x s y hx hs2 h w

end Go.Proofs.YtppagdmlfgialaaGreatDoor

namespace Go.Proofs.YtppagdmlfgialaaGreatDoor
open Go.RowKit
set_option linter.unusedSimpArgs false
set_option linter.unusedVariables false

theorem stAll (s : St) : (stA s).all (·.oneCell') = true := Array.all_eq_true_iff_forall_mem.2 (fun v hv => stA_one s v (by simpa using hv))
/-- the state, filled up to place k -/
def sideK (c p : Nat → Nat) (k : Nat) : Nat → Nat := fun j => if j < 8 then (if j < k then c j else 0) else if j - 8 < k then le4f p (4 * (j - 8)) else 0
theorem sideK_zero (c p : Nat → Nat) : sideK c p 0 = fun _ => 0 := by
  funext j
  unfold sideK
  simp
theorem sideK_all (c p : Nat → Nat) : va 16 (iv .u32 (sideK c p 8)) = va 16 (iv .u32 (sideN c p)) := va_congr fun j hj => by
  show Value.int .u32 ((sideK c p 8 j : Nat) : Int) = Value.int .u32 ((sideN c p j : Nat) : Int)
  have : sideK c p 8 j = sideN c p j := by
    unfold sideK sideN
    by_cases h : j < 8
    · simp [h]
    · rw [if_neg h, if_neg h, if_pos (by omega)]
  rw [this]
theorem sideK_step (c p : Nat → Nat) (k : Nat) (hk : k < 8) :
    va 16 (upd (upd (iv .u32 (sideK c p k)) k (.int .u32 (c k : Int))) (k + 8) (.int .u32 (le4f p (4 * k) : Int))) = va 16 (iv .u32 (sideK c p (k + 1))) := by
  rw [upd_iv, upd_iv]
  congr 2
  funext j
  unfold updN sideK
  by_cases h : j = k + 8
  · subst h
    rw [if_pos rfl, if_neg (by omega), if_pos (by omega)]
    simp
  · rw [if_neg h]
    by_cases h2 : j = k
    · subst h2
      simp [hk]
    · rw [if_neg h2]
      by_cases h3 : j < 8
      · simp only [h3, if_true]
        by_cases h4 : j < k
        · rw [if_pos h4, if_pos (by omega)]
        · rw [if_neg h4, if_neg (by omega)]
      · simp only [h3, if_false]
        by_cases h4 : j - 8 < k
        · rw [if_pos h4, if_pos (by omega)]
        · rw [if_neg h4, if_neg (by omega)]

end Go.Proofs.YtppagdmlfgialaaGreatDoor

namespace Go.Proofs.YtppagdmlfgialaaGreatDoor
open Go.RowKit
set_option linter.unusedSimpArgs false
set_option linter.unusedVariables false

theorem sum_at (c : Nat → Nat) (k j : Nat) (hj : j < 4) : sumN c (4 * k + j) = dig (c k) j := by
  unfold sumN
  rw [show (4 * k + j) / 4 = k from by omega, show (4 * k + j) % 4 = j from by omega]

end Go.Proofs.YtppagdmlfgialaaGreatDoor
