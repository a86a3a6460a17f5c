/- Texts: their bytes; a text copied into the midst of a block. No program in it. -/
import Derived.Test.YtaoglljkghkbpaaDigPad
import Derived.Test.YtaoglljkghkbpaaDigNew
import Derived.Deep.RegionLaw
namespace Go.Proofs.Ytaoglljkghkbpaa
open Go Go.RowKit

/-- the byte of a text at a place -/
def byteAt (s : ByteArray) (i : Nat) : Nat := (s.data.toList.getD i 0).toNat
theorem byteAt_lt (s : ByteArray) (j : Nat) : byteAt s j < 256 := UInt8.toNat_lt _
theorem bytes_prefix (s : ByteArray) (n : Nat) (h : n ≤ s.size) : ((s.extract 0 n).data.map fun b => Value.int .u8 (b.toNat : Int)).toList = bytesL (byteAt s) n := by
  have hs : s.data.toList.length = s.size := Array.length_toList
  apply List.ext_getElem?
  intro i
  rw [Array.toList_map, List.getElem?_map]
  have e : (s.extract 0 n).data.toList = s.data.toList.take n := by
    rw [ByteArray.data_extract]
    simp
  rw [e]
  by_cases hi : i < n
  · rw [bytesL_at _ _ _ hi, List.getElem?_take_of_lt hi, List.getElem?_eq_getElem (by omega)]
    unfold byteAt
    rw [List.getD_eq_getElem?_getD, List.getElem?_eq_getElem (by omega)]
    rfl
  · rw [List.getElem?_eq_none (by rw [List.length_take]; omega), List.getElem?_eq_none (by rw [bytesL_length]; omega)]
    rfl
theorem byteAt_drop (s : ByteArray) (a j : Nat) : byteAt (s.extract a s.size) j = byteAt s (a + j) := by
  unfold byteAt
  rw [ByteArray.data_extract]
  have hs : s.size = s.data.size := rfl
  simp only [List.getD_eq_getElem?_getD, Array.toList_extract, List.extract_eq_take_drop]
  rw [List.getElem?_take, List.getElem?_drop]
  split
  · rfl
  · rw [List.getElem?_eq_none (by simp; omega)]
section
variable {P : Program}
theorem run_copy_string (w : World) (dT sT ty elem : TypeId) (g o dLen dCap : Nat) (s : ByteArray) (cur : Array Value) (t : TypeId) (n : Nat)
    (hu : P.underlying dT = some (.slice elem)) (hs : (P.info? elem).map (·.size) = some 1)
    (hg : w.heap[g]? = some (.cells cur t (0, 0))) (hn : n = Nat.min s.size dLen) (hfit : o + n ≤ cur.size) :
    (Builtin.copy_ #[dT, sT] ty #[.slice (some ⟨g, o, none⟩) dLen dCap, .string s]).run P w =
      .ok (goInt n) (w.setRow g (splice cur.toList o (bytesL (byteAt s) n)).toArray) := by
  have hns : n ≤ s.size := by rw [hn]; exact Nat.min_le_left _ _
  have eL : List.take n (List.map (fun b : UInt8 => Value.int .u8 (b.toNat : Int)) s.data.toList) = bytesL (byteAt s) n := by
    rw [← bytes_prefix s n hns]
    simp
  have hst := run_storeCells_at P g o t (List.take n (List.map (fun b : UInt8 => Value.int .u8 (b.toNat : Int)) s.data.toList)) 0 cur w hg (by rw [eL, bytesL_length]; simpa using hfit) (by rw [eL]; exact mem_iv_one _ _ _)
  have e2 : (w.setRow g (cur.toList.take (o + 0) ++ List.take n (List.map (fun b : UInt8 => Value.int .u8 (b.toNat : Int)) s.data.toList) ++ cur.toList.drop (o + 0 + (List.take n (List.map (fun b : UInt8 => Value.int .u8 (b.toNat : Int)) s.data.toList)).length)).toArray) = w.setRow g (splice cur.toList o (bytesL (byteAt s) n)).toArray := by
    rw [eL]
    unfold splice
    rw [List.append_assoc, Nat.add_zero]
  rw [e2] at hst
  cases hq : P.info? elem with
  | none => simp [hq] at hs
  | some i =>
    have hi : i.size = 1 := by simpa [hq] using hs
    generalize w.setRow g (splice cur.toList o (bytesL (byteAt s) n)).toArray = W at *
    simp [Builtin.copy_, run_underlying hu, Builtin.lenOf, Builtin.firstCells, sizeOf, typeInfo, hq, ← hn, hst]
/-- the same as one step of a region that draws its order -/
theorem step_copy_string {ops : Array Oper} {o : Oper} {a : Act} {w : World} {K : Act → World → Prop} {Q : Exit → Act → World → Prop} {E : Prop} (hgd : o.guard = none) (d s : Operand) (dT sT : TypeId)
    (ho : o.op = .call { callee := .builtin .copy, args := #[d, s], argTypes := #[dT, sT] }) (elem : TypeId) (hu : P.underlying dT = some (.slice elem)) (hsz : (P.info? elem).map (·.size) = some 1)
    (g off dLen dCap : Nat) (str : ByteArray) (hd : a.eval d = .slice (some ⟨g, off, none⟩) dLen dCap) (hs : a.eval s = .string str)
    (cur : Array Value) (t : TypeId) (hg : w.heap[g]? = some (.cells cur t (0, 0))) (n : Nat) (hn : n = Nat.min str.size dLen) (hfit : off + n ≤ cur.size)
    (h : K (a.put o.dst (goInt n)) (w.setRow g (splice cur.toList off (bytesL (byteAt str) n)).toArray)) :
    if Region.wanted o (yielded ops a.tmps) = true then Oper.wp P o a w K Q else E := by
  have hw : Region.wanted o (yielded ops a.tmps) = true := by simp [Region.wanted, hgd]
  rw [if_pos hw]
  have hrun := run_copy_string (P := P) w dT sT o.type elem g off dLen dCap str cur t n hu hsz hg hn hfit
  unfold Oper.wp
  simp [execOp, ho, resolve, invoke, builtin, hd, hs, hrun, Result.andThen]
  exact h
end
/-- n bytes laid into a piece from place r on -/
def laidN (p : Nat → Nat) (r n : Nat) (b : Nat → Nat) : Nat → Nat := fun j => if r ≤ j ∧ j < r + n then b (j - r) else p j
theorem hash_copy (c p : Nat → Nat) (m r n : Nat) (b : Nat → Nat) (h : r + n ≤ 32) : (splice (va 41 (hashV c p m)).toList (8 + r) (bytesL b n)).toArray = va 41 (hashV c (laidN p r n b) m) := by
  rw [va_toList]
  have e := splice_va 41 (8 + r) n (hashV c p m) (fun j => Value.int .u8 ((b j : Nat) : Int)) (by omega)
  refine Eq.trans (by rfl) (e.trans ?_)
  refine va_congr fun i hi => ?_
  unfold overF
  by_cases h1 : 8 + r ≤ i ∧ i < 8 + r + n
  · rw [if_pos h1]
    unfold hashV laidN
    rw [if_neg (by omega), if_pos (by omega), if_pos (by omega), show i - 8 - r = i - (8 + r) from by omega]
  · rw [if_neg h1]
    unfold hashV laidN
    by_cases h2 : i < 8
    · rw [if_pos h2, if_pos h2]
    · rw [if_neg h2, if_neg h2]
      by_cases h3 : i < 40
      · rw [if_pos h3, if_pos h3, if_neg (by omega)]
      · rw [if_neg h3, if_neg h3]
theorem hash_many (c p : Nat → Nat) (m m' : Nat) : va 41 (upd (hashV c p m) 40 (.int .i64 (m' : Int))) = va 41 (hashV c p m') := va_congr fun i hi => by
  unfold upd hashV
  by_cases h : i = 40
  · subst h
    rfl
  · rw [if_neg h]
    by_cases h2 : i < 8
    · rw [if_pos h2, if_pos h2]
    · rw [if_neg h2, if_neg h2, if_pos (by omega), if_pos (by omega)]
theorem hash_chain (c d p : Nat → Nat) (m : Nat) : va 41 (over (hashV c p m) 0 ((List.range 8).map (iv .u32 d))) = va 41 (hashV d p m) := va_congr fun i hi => by
  unfold over hashV
  by_cases h2 : i < 8
  · rw [if_pos (by simp; omega), if_pos h2]
    simp [h2, iv]
  · rw [if_neg (by simp; omega), if_neg h2, if_neg h2]
end Go.Proofs.Ytaoglljkghkbpaa
