/- A slice of bytes that grows, told by its cells; append onto it. No program in it. -/
import Derived.Test.YtaoglljkghkbpaaDigText
import Derived.ArgAppend
import Derived.Lib.ConvBytes
namespace Go.Proofs.Ytaoglljkghkbpaa
open Go Go.RowKit
set_option linter.unusedVariables false

/-- the slice v of m bytes, told by f, in a block from B on; all up to its capacity may be written -/
def RowC (w : World) (B : Nat) (v : Value) (m : Nat) (f : Nat → Nat) : Prop :=
  ∃ b cap, v = .slice (some ⟨b, 0, none⟩) m cap ∧ B ≤ b ∧ b < w.heap.size ∧ m ≤ cap ∧ (∀ j, j < m → w.cell? ⟨b, j, none⟩ = some (.int .u8 ((f j : Nat) : Int))) ∧
    (∀ j, j < cap → (w.cell? ⟨b, j, none⟩).isSome = true ∧ w.frozen? ⟨b, j, none⟩ = false)
def appN (f : Nat → Nat) (n : Nat) (g : Nat → Nat) : Nat → Nat := fun j => if j < n then f j else g (j - n)
theorem frozen_setCells (b : Nat) (x : Addr) : ∀ (vs : List Value) (o : Nat) (w : World), (w.setCells b o vs).frozen? x = w.frozen? x
  | [], _, _ => rfl
  | v :: vs, o, w => by
    rw [World.setCells, frozen_setCells b x vs (o + 1)]
    exact World.frozen?_setCell _ _ _ _
theorem RowC.below {w w' : World} {B B' m : Nat} {v : Value} {f : Nat → Nat} (h : RowC w B v m f) (hb : Below B' w w') (hB : w.heap.size ≤ B') : RowC w' B v m f := by
  obtain ⟨b, cap, rfl, h1, h2, h3, h4, h5⟩ := h
  have hblk : w'.heap[b]? = w.heap[b]? := hb.block b (by omega)
  have e1 : ∀ j, w'.cell? ⟨b, j, none⟩ = w.cell? ⟨b, j, none⟩ := fun j => by simp [World.cell?, hblk]
  have e2 : ∀ j, w'.frozen? ⟨b, j, none⟩ = w.frozen? ⟨b, j, none⟩ := fun j => by simp [World.frozen?, hblk]
  exact ⟨b, cap, rfl, h1, Nat.lt_of_lt_of_le h2 hb.size, h3, fun j hj => by rw [e1]; exact h4 j hj, fun j hj => by rw [e1, e2]; exact h5 j hj⟩
theorem RowC.of_own {w : World} {B e n : Nat} {v : Value} {f : Nat → Nat} (h : w.ownsRow B e 1 v n (bytesL f n)) (hn : 0 < n) : RowC w B v n f := by
  rcases h.2 with ⟨_, h0⟩ | ⟨g, cap, cur, rfl, hb, hg, hcap, _, hsz, htake⟩
  · omega
  · refine ⟨g, cap, rfl, hb, (Array.getElem?_eq_some_iff.1 hg).1, hcap, fun j hj => ?_, fun j hj => ?_⟩
    · rw [h.cellAt j (by omega), bytesL_at _ _ _ hj]
    · have hB : Blk w g e cur := hg
      refine ⟨?_, hB.frozen j⟩
      rw [hB.cell, Array.getElem?_eq_getElem (by omega)]
      rfl
theorem RowC.congr {w : World} {B m : Nat} {v : Value} {f g : Nat → Nat} (h : RowC w B v m f) (e : ∀ j, j < m → f j = g j) : RowC w B v m g := by
  obtain ⟨b, cap, rfl, h1, h2, h3, h4, h5⟩ := h
  exact ⟨b, cap, rfl, h1, h2, h3, fun j hj => by rw [h4 j hj, e j hj], h5⟩

theorem wpList_append_rowC {P : Program} (w : World) {ops : Array Oper} {rest : List Oper} {o : Oper} {a : Act} {Q : Exit → Act → World → Prop}
    (hg : o.guard = none) (s x : Operand) (t : TypeId) (hop : o.op = Op.call { callee := Callee.builtin Builtin.append, args := #[s, x], argTypes := #[t, t] })
    (e : TypeId) (i : TypeInfo) (z : Value) (h1 : P.underlying t = some (.slice e)) (h2 : P.info? e = some i) (h3 : i.zero = some z) (h4 : i.size = 1) (h5 : i.bytes = 1) (h6 : z.cells.size = 1)
    (B n : Nat) (f : Nat → Nat) (v : Value) (hs : a.eval s = v) (hrow : RowC w B v n f) (hB : B ≤ w.heap.size)
    (ad : Addr) (m c : Nat) (g : Nat → Nat) (hx : a.eval x = .slice (some ad) m c) (hc : ∀ j u, (bytesL g m)[j]? = some u → w.cell? (ad.add j) = some u)
    (b1 : n + m ≤ 140737488355328) (hm : 0 < m)
    (hK : ∀ v' w', RowC w' B v' (n + m) (appN f n g) → Below B w w' → wpList P ops Q rest (a.put o.dst v') w') :
    wpList P ops Q (o :: rest) a w := by
  obtain ⟨b, cap, rfl, hb, hbl, hmc, hcell, hsp⟩ := hrow
  refine wpList_append_arg w hg s x t hop e i z 1 1 h1 h2 h3 h4 h5 h6 (by decide) b 0 n cap (bytesL f n) hs (by rw [bytesL_length]; omega) (fun j u hj => ?_) ad m c (bytesL g m) hx (by rw [bytesL_length]; omega) hc (mem_iv_one _ _ _) (fun hr j hj => ?_) (by unfold maxLen; omega) (by omega) (fun hr => ?_) (fun hr v' w' hown hgrow => ?_)
  · have hjn : j < n := by
      have := (List.getElem?_eq_some_iff.1 hj).1
      rwa [bytesL_length] at this
    rw [Nat.zero_add, hcell j hjn, ← hj, bytesL_at _ _ _ hjn]
  · rw [bytesL_length] at hj
    have := hsp (n + j) (by omega)
    rw [show 0 + n * 1 + j = n + j from by omega]
    exact this
  · rw [show 0 + n * 1 = n from by omega]
    refine hK _ _ ⟨b, cap, rfl, hb, by rw [size_setCells]; exact hbl, hr, fun j hj => ?_, fun j hj => ?_⟩ (below_setCells hb _ _ _ (Below.refl _ _))
    · by_cases hjn : j < n
      · rw [World.cell?_setCells_out b (bytesL g m) n w ⟨b, j, none⟩ (fun _ _ => .inl hjn), hcell j hjn]
        unfold appN
        rw [if_pos hjn]
      · have hin := World.cell?_setCells_in b (bytesL g m) n w (fun i hi => (hsp (n + i) (by rw [bytesL_length] at hi; omega)).1) (j - n) (by rw [bytesL_length]; omega)
        rw [show n + (j - n) = j from by omega] at hin
        have e2 := bytesL_at g m (j - n) (by omega)
        rw [List.getElem?_eq_getElem (by rw [bytesL_length]; omega)] at e2
        rw [hin]
        unfold appN
        rw [if_neg hjn]
        exact e2
    · exact ⟨World.isSome_setCells b _ _ _ _ (hsp j hj).1, by rw [frozen_setCells]; exact (hsp j hj).2⟩
  · have e1 : bytesL f n ++ bytesL g m = bytesL (appN f n g) (n + m) := by
      rw [bytesL_add]
      congr 1
      · exact bytesL_congr fun j hj => by unfold appN; rw [if_pos hj]
      · exact bytesL_congr fun j hj => by unfold appN; rw [if_neg (by omega), show n + j - n = j from by omega]
    rw [e1] at hown
    refine hK v' w' (RowC.of_own (own_mono hown hB) (by omega)) ?_
    exact (Below.refl _ _).grown hgrow hB (fun k hk => nomatch hk)
theorem RowC.of_string (w : World) (e B : Nat) (s : ByteArray) (hB : B ≤ w.heap.size) : RowC (Lib.bytesWorld w e s) B (.slice (some ⟨w.heap.size, 0, none⟩) s.size (grownCap w s.size 0 e)) s.size (byteAt s) := by
  have hcap := grownCap_ge w s.size 0 e
  refine ⟨w.heap.size, _, rfl, hB, by rw [Lib.bytesWorld_size]; omega, hcap, fun j hj => Lib.bytesWorld_cell w e s j hj, fun j hj => ?_⟩
  have hsz : (Lib.bytesCells w e s).size = grownCap w s.size 0 e := by
    unfold Lib.bytesCells
    have : s.data.size = s.size := rfl
    simp
    omega
  constructor
  · simp [World.cell?, Lib.bytesWorld_at_new, hsz, hj]
  · simp [World.frozen?, Lib.bytesWorld_at_new, hsz]
    omega
theorem below_bytes (w : World) (e B : Nat) (s : ByteArray) (hB : B ≤ w.heap.size) : Below B w (Lib.bytesWorld w e s) :=
  ⟨rfl, rfl, rfl, by rw [Lib.bytesWorld_size]; omega, fun k hk => Lib.bytesWorld_at_old w e s k (by omega)⟩
end Go.Proofs.Ytaoglljkghkbpaa
