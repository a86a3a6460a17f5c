/- The document's lay, which lays what hangs beneath a position: a level above another one. -/
import Derived.Test.YtppagdmlfgialaaGreatDoorHTrRGet
import Derived.Test.YtppagdmlfgialaaGreatDoorHSegsP
import Derived.Test.YtppagdmlfgialaaGreatDoorHNdKit
import Derived.Test.YtppagdmlfgialaaGreatDoorHIntMap
import Derived.Lib.SlBytesConst
import Derived.ArgAppend
import Derived.Handy
import Derived.Test.YtppagdmlfgialaaGreatDoorHBlkGrp

namespace Go.Proofs.YtppagdmlfgialaaGreatDoor
theorem sgLHLvStep : (∀ (α : Type) (a : α) (l r : List α), (a :: l) ++ r = a :: (l ++ r)) ∧ (∀ (α : Type) (l : List α), [] ++ l = l) ∧ (∀ (α : Type) (l : List α), l ++ [] = l) ∧ (∀ (α β : Type) (f : α → Option β) (a : α) (l : List α), (a :: l).filterMap f = match f a with | none => l.filterMap f | some b => b :: l.filterMap f) ∧ (∀ (α β : Type) (f : α → Option β), [].filterMap f = []) ∧ (∀ (α : Type) (l : List α) (i : Nat), l.toArray[i]? = l[i]?) ∧ (∀ (α : Type) (a : α) (l : List α), (a :: l)[0]? = some a) ∧ (∀ (α : Type) (a : α) (l : List α) (i : Nat), (a :: l)[i + 1]? = l[i]?) :=
  ⟨fun _ _ _ _ => List.cons_append, fun _ _ => List.nil_append _, fun _ _ => List.append_nil _, fun _ _ _ _ _ => List.filterMap_cons, fun _ _ _ => List.filterMap_nil, fun _ _ _ => List.getElem?_toArray, fun _ _ _ => List.getElem?_cons_zero, fun _ _ _ _ => List.getElem?_cons_succ⟩
theorem sgPHLvStep : (∀ (α : Type) (l : List α) (i : Nat) (a : α), l.toArray.setIfInBounds i a = (l.set i a).toArray) ∧ (∀ (α : Type) (a b : α) (l : List α), (a :: l).set 0 b = b :: l) ∧ (∀ (α : Type) (a b : α) (l : List α) (i : Nat), (a :: l).set (i + 1) b = a :: l.set i b) :=
  ⟨fun _ _ _ _ => List.setIfInBounds_toArray _ _ _, fun _ _ _ _ => List.set_cons_zero, fun _ _ _ _ _ => List.set_cons_succ⟩
end Go.Proofs.YtppagdmlfgialaaGreatDoor
namespace Go.Proofs.YtppagdmlfgialaaGreatDoor
open Go Go.RowKit
set_option linter.unusedSimpArgs false
set_option linter.unusedVariables false

/-- an image in the memory: n blocks of bytes, in a slice of the call's own -/
def Img (w : World) (B : Nat) (v : Value) (n : Nat) (X : Nat → Nat) : Prop := w.ownsRow B 121 256 v n (byL X (n * 256)) ∧ (∀ x, X x < 256) ∧ 1 ≤ n
theorem Img.below {w w' : World} {B : Nat} {v : Value} {n : Nat} {X : Nat → Nat} (h : Img w B v n X) (hb : Below w.heap.size w w') : Img w' B v n X := ⟨kown_below h.1 hb, h.2⟩
theorem own_some {w : World} {B e size n : Nat} {v : Value} {xs : List Value} (h : w.ownsRow B e size v n xs) (hn : 1 ≤ n) : ∃ b cap, v = .slice (some ⟨b, 0, none⟩) n cap ∧ B ≤ b ∧ b < w.heap.size ∧ (∀ j u, xs[j]? = some u → w.cell? ((⟨b, 0, none⟩ : Addr).add j) = some u) := by
  rcases h.2 with ⟨_, h1⟩ | ⟨g, cap, cur, rfl, hg, hgg, h1, h2, h3, h4⟩
  · omega
  · refine ⟨g, cap, rfl, hg, (Array.getElem?_eq_some_iff.1 hgg).1, fun j u hu => ?_⟩
    rw [Addr.add_mid, Nat.zero_add, (show Blk w g e cur from hgg).cell]
    rw [← h4, List.getElem?_take] at hu
    split at hu
    · simpa using hu
    · cases hu
theorem grown_cells {w w' : World} {row : Option Nat} {b : Nat} {xs : List Value} (h : ∀ j u, xs[j]? = some u → w.cell? ((⟨b, 0, none⟩ : Addr).add j) = some u) (hg : w.grownBy w' row) (hne : some b ≠ row) : ∀ j u, xs[j]? = some u → w'.cell? ((⟨b, 0, none⟩ : Addr).add j) = some u := fun j u hu => by
  have := h j u hu
  rw [Addr.add_mid] at this ⊢
  exact hg.cell this hne
theorem below_cells9 {w w' : World} {B b : Nat} {xs : List Value} (h : ∀ j u, xs[j]? = some u → w.cell? ((⟨b, 0, none⟩ : Addr).add j) = some u) (hb : Below B w w') (hB : b < B) : ∀ j u, xs[j]? = some u → w'.cell? ((⟨b, 0, none⟩ : Addr).add j) = some u := fun j u hu => by
  have := h j u hu
  rw [Addr.add_mid] at this ⊢
  rw [hb.cell (p := ⟨b, 0 + j, none⟩) hB]
  exact this
theorem results_tmp_row {P : Program} {fn : Func} {u p : Tmp} {ty : TypeId} (h : fn.results = #[.tmp u, .cell p ty]) (tmps : Array Value) (w : World) (g : Nat) (t : TypeId) (cs : Array Value) (d : TypeDesc)
    (hp : tmps.getD p undef = .pointer (some ⟨g, 0, none⟩)) (hg : Blk w g t cs)
    (hu : P.underlying ty = some d) (hd : (match d with | .struct _ | .array _ _ => true | _ => false) = true) (hi : (P.info? ty).map (·.size) = some cs.size) :
    (results fn tmps).run P w = .ok (.tuple #[tmps.getD u undef, .agg cs]) w := by
  have hp' : tmps[p]?.getD undef = .pointer (some ⟨g, 0, none⟩) := by simpa using hp
  simp [results, h, hp', asAddr, run_loadVar_row w g t ty cs (0, 0) d hg hu hd hi]
theorem run_build_any {P : Program} {o : Oper} {ev : Operand → Value} {w : World} {t : TypeId} {i j : Nat} {x y : Operand} {vx vy : Value} {cells : Array Value} (ho : o.op = .build t #[(i, x), (j, y)]) (hx : ev x = vx) (hy : ev y = vy) (hf : P.built t [(i, vx), (j, vy)] = some cells) : (execOp ev o).run P w = .ok (.value (.agg cells)) w := by
  have e : (Array.map (fun (x : Nat × Operand) => match x with | (i, x) => (i, ev x)) #[(i, x), (j, y)]).toList = [(i, vx), (j, vy)] := by simp [hx, hy]
  rw [← e] at hf
  unfold execOp
  simp only [ho, Sem.run_bind, run_build w t _ cells hf, Result.andThen_ok]
  rfl
theorem va_byL9 (b : Nat → Nat) (n : Nat) : (va n (iv .u8 b)).toList = byL b n := va_toList _ _
theorem info256 : (Tryz.prog.info? 121).map (fun i => (i.zero, i.size, i.bytes)) = some (some (.agg (va 256 (iv .u8 fun _ => 0))), 256, 256) := by kernel_rfl
set_option maxRecDepth 100000 in
set_option maxHeartbeats 4000000 in
theorem put9_none {B n : Nat} {v : Value} {X : Nat → Nat} (f : Nat → Nat) (hnz : bkSame f fun _ => 0) (w : World) (hI : Img w B v n X) : Calls Tryz.prog 49 #[v, .agg (va 256 (iv .u8 f))] w fun e w' => e = .returned (.tuple #[v, .agg (rfC rf0)]) ∧ Below w.heap.size w w' := by
  obtain ⟨i0, hi, hz0, hz1, hz2⟩ := tinfo_parts info256
  obtain ⟨ib, cap, rfl, hib, hibl, hic⟩ := own_some hI.1 hI.2.2
  have hz := zero_256
  have hzr := zero_rref
  have HX : Hid (∀ x, X x < 256) := hI.2.1
  have heq : ∀ W, (Op.equalIn 10000 121 (.agg (va 256 (iv .u8 f))) (.agg (va 256 (iv .u8 fun _ => 0)))).run Tryz.prog W = .ok true W := fun W => by
    have := eq_bk 121 Tryz.underlying121 f (fun _ => 0) W
    rw [decide_eq_true hnz] at this
    exact this
  have hb1 : Below w.heap.size w ((w.alloc (.cells (va 256 (iv .u8 f)) 121)).alloc (.cells (rfC rf0) 67)) := below_new2 w _ _
  have t1 : Blk ((w.alloc (.cells (va 256 (iv .u8 f)) 121)).alloc (.cells (rfC rf0) 67)) w.heap.size 121 (va 256 (iv .u8 f)) := (Blk.new w _ _).alloc _
  have r1 : Blk ((w.alloc (.cells (va 256 (iv .u8 f)) 121)).alloc (.cells (rfC rf0) 67)) (w.heap.size + 1) 67 (rfC rf0) := Blk.new1 w _ _ _
  go_enter Tryz.func49, Tryz.ntmps49
  go_wp2_with (first
    | (refine wpList_load_rowg (by rfl) 121 _ (by rfl) (w.heap.size) (by rfl) 121 (va 256 (iv .u8 f)) (0, 0) _ (by exact t1) Tryz.underlying121 (by rfl) (size256.trans (by rw [va_size])) ?_; simp only [Act.put, sgPHLvStep])
    | (refine wpList_buildTo (by rfl) 67 #[] (by rfl) _ rfl (rfC rf0) (by exact built_rref0) ?_; simp only [Act.put, sgPHLvStep])
    | (refine wpList_store_row (by rfl) 67 _ _ (by rfl) (w.heap.size + 1) (rfC rf0) (by rfl) (by rfl) 67 (rfC rf0) (by exact r1) (rsizeRef.trans (by rw [rfC_size])) (by simp only [rfC_size]) (rfC_all _) ?_; simp only [Act.put, sgPHLvStep])
    | fail)
  try simp only [Exit.inBlock, Exit.then]
  refine bodyPost_ret (results_tmp_row Tryz.results49 _ _ (w.heap.size + 1) 67 (rfC rf0) _ rfl (r1.set _) Tryz.underlying67 rfl (rsizeRef.trans (by rw [rfC_size]))) rfl ?_
  exact ⟨rfl, below_setRow hb1 (by omega) _⟩
theorem own_lo {w : World} {B e size n b cap : Nat} {xs : List Value} (h : w.ownsRow B e size (.slice (some ⟨b, 0, none⟩) n cap) n xs) : B ≤ b := by
  rcases h.2 with ⟨h1, _⟩ | ⟨g, c, cur, h1, hg, _⟩
  · cases h1
  · injection h1 with h1
    injection h1 with h1
    injection h1 with h1
    omega
theorem img_setRow {w : World} {B e size n g : Nat} {v : Value} {xs : List Value} {cs : Array Value} (h : w.ownsRow B e size v n xs) (hg : g < B) : (w.setRow g cs).ownsRow B e size v n xs := by
  refine ⟨h.1, ?_⟩
  rcases h.2 with hn | ⟨b, cap, cur, rfl, hb, hbb, rest⟩
  · exact .inl hn
  · exact .inr ⟨b, cap, cur, rfl, hb, (show Blk w b e cur from hbb).other cs (by omega), rest⟩
theorem img_more {w : World} {B B' n : Nat} {v : Value} {X f : Nat → Nat} (hB : B ≤ B') (h : w.ownsRow B' 121 256 v (n + 1) (byL X (n * 256) ++ (va 256 (iv .u8 f)).toList)) (hX : ∀ x, X x < 256) (hf : ∀ j, f j < 256) (hn : 1 ≤ n) : Img w B v (n + 1) (fun x => if x < n * 256 then X x else f (x - n * 256)) := by
  refine ⟨?_, fun x => ?_, by omega⟩
  · have e : byL (fun x => if x < n * 256 then X x else f (x - n * 256)) ((n + 1) * 256) = byL X (n * 256) ++ (va 256 (iv .u8 f)).toList := by
      rw [show (n + 1) * 256 = n * 256 + 256 by omega, byL_add, va_byL9]
      congr 1
      · unfold byL
        refine List.map_congr_left fun j hj => ?_
        show Value.int .u8 (((if j < n * 256 then X j else f (j - n * 256) : Nat)) : Int) = _
        rw [if_pos (List.mem_range.1 hj)]
      · unfold byL
        refine List.map_congr_left fun j hj => ?_
        show Value.int .u8 (((if n * 256 + j < n * 256 then X (n * 256 + j) else f (n * 256 + j - n * 256) : Nat)) : Int) = _
        rw [if_neg (by omega), show n * 256 + j - n * 256 = j by omega]
    rw [e]
    refine ⟨h.1, ?_⟩
    rcases h.2 with hn | ⟨b, cap, cur, rfl, hb, hbb, rest⟩
    · exact .inl hn
    · exact .inr ⟨b, cap, cur, rfl, by omega, hbb, rest⟩
  · show (if _ then _ else _) < 256
    split
    · exact hX _
    · exact hf _
set_option maxRecDepth 100000 in
set_option maxHeartbeats 4000000 in
theorem put9_more {B n : Nat} {v : Value} {X : Nat → Nat} (f : Nat → Nat) (hnz : ¬ bkSame f fun _ => 0) (hf : ∀ j, f j < 256) (hok : okD (dgB f)) (hn : n ≤ 8192) (w : World) (hBw : B ≤ w.heap.size) (hI : Img w B v n X) : Calls Tryz.prog 49 #[v, .agg (va 256 (iv .u8 f))] w fun e w' => ∃ v', e = .returned (.tuple #[v', .agg (rfC (n, dgB f))]) ∧ Img w' B v' (n + 1) (apX X n f) ∧ n < 4294967296 ∧ okD (dgB f) ∧ Below w.heap.size w w' := by
  obtain ⟨i0, hi, hz0, hz1, hz2⟩ := tinfo_parts info256
  obtain ⟨ib, cap, rfl, hib, hibl, hic⟩ := own_some hI.1 hI.2.2
  have hz := zero_256
  have hzr := zero_rref
  have HX : Hid (∀ x, X x < 256) := hI.2.1
  have heq : ∀ W, (Op.equalIn 10000 121 (.agg (va 256 (iv .u8 f))) (.agg (va 256 (iv .u8 fun _ => 0)))).run Tryz.prog W = .ok false W := fun W => by
    have := eq_bk 121 Tryz.underlying121 f (fun _ => 0) W
    rw [decide_eq_false hnz] at this
    exact this
  have hb1 : Below w.heap.size w ((w.alloc (.cells (va 256 (iv .u8 f)) 121)).alloc (.cells (rfC rf0) 67)) := below_new2 w _ _
  have t1 : Blk ((w.alloc (.cells (va 256 (iv .u8 f)) 121)).alloc (.cells (rfC rf0) 67)) w.heap.size 121 (va 256 (iv .u8 f)) := (Blk.new w _ _).alloc _
  have r1 : Blk ((w.alloc (.cells (va 256 (iv .u8 f)) 121)).alloc (.cells (rfC rf0) 67)) (w.heap.size + 1) 67 (rfC rf0) := Blk.new1 w _ _ _
  have hn1 : 1 ≤ n := hI.2.2
  have HN : Hid (1 ≤ n) := hn1
  have HF : Hid (∀ j, f j < 256) := hf
  have HOK : Hid (okD (dgB f)) := hok
  have HN32 : Hid (n < 4294967296) := by
    show _ < _
    omega
  have hw32 : IntKind.u32.wrap (n : Int) = (n : Int) := by
    rw [IntKind.wrap_u32]
    omega
  have HBt : Hid (Tryz.prog.built 67 [(0, .int .u32 (n : Int)), (1, .agg (va 32 (iv .u8 (dF (dgB f)))))] = some (rfC (n, dgB f))) := built_rref n (dgB f)
  have HLI : Hid ((byL X (n * 256)).length = n * 256) := byL_length _ _
  have HMI : Hid (∀ u ∈ byL X (n * 256), u.oneCell' = true) := fun u hu => by
    obtain ⟨j, _, rfl⟩ := List.mem_map.1 hu
    rfl
  have HIC : Hid (∀ j u, (byL X (n * 256))[j]? = some u → ((w.alloc (.cells (va 256 (iv .u8 f)) 121)).alloc (.cells (rfC rf0) 67)).cell? ((⟨ib, 0, none⟩ : Addr).add j) = some u) := below_cells9 hic hb1 hibl
  have HIL : Hid (ib < ((w.alloc (.cells (va 256 (iv .u8 f)) 121)).alloc (.cells (rfC rf0) 67)).heap.size) := Nat.lt_of_lt_of_le hibl hb1.size
  have HS1 : Hid (((w.alloc (.cells (va 256 (iv .u8 f)) 121)).alloc (.cells (rfC rf0) 67)).heap.size = w.heap.size + 2) := by
    show _ = _
    simp
  have HBW : Hid (B ≤ ((w.alloc (.cells (va 256 (iv .u8 f)) 121)).alloc (.cells (rfC rf0) 67)).heap.size) := Nat.le_trans hBw hb1.size
  clear hI hic hok hf hBw
  go_enter Tryz.func49, Tryz.ntmps49
  go_wp2_with (first
    | (refine wpList_load_rowg (by rfl) 121 _ (by rfl) (w.heap.size) (by rfl) 121 (va 256 (iv .u8 f)) (0, 0) _ (by exact t1) Tryz.underlying121 (by rfl) (size256.trans (by rw [va_size])) ?_; simp only [Act.put, sgPHLvStep])
    | fail)
  generalize ((w.alloc (.cells (va 256 (iv .u8 f)) 121)).alloc (.cells (rfC rf0) 67)) = w1 at *
  have hS0 : Blk w1.drew w.heap.size 121 (va 256 (iv .u8 f)) := t1
  have hwd : Below w1.heap.size w1 w1.drew := (Below.refl _ _).drew
  refine wp_region_plan (fun W => Blk W w.heap.size 121 (va 256 (iv .u8 f))) (.yield [1, 6] 3 (.yield [] 7 (.yield [] 8 (.yield [] 9 (.fork 0 4 (.fork 2 4 (.force [] 4 (.force [] 5 (.force [] 10 (.yield [12] 11 (.force [] 13 (.fin [])))))) (.force [] 2 (.force [] 5 (.force [] 10 (.yield [12] 11 (.force [] 13 (.fin []))))))) (.force [] 0 (.force [] 2 (.force [] 5 (.force [] 10 (.yield [12] 11 (.force [] 13 (.fin [])))))))))))) (by kernel_rfl) (by kernel_rfl) hS0 (plan_yield ?_)
  generalize w1.drew = wd at *
  simp only [sgLHLvStep]
  go_wp2_with fail
  refine ⟨rfl, _, .agg (va 256 (iv .u8 f)), rfl, kyields_load (by rfl) 121 _ (by rfl) w.heap.size 256 (iv .u8 f) (by rfl) _ 121 (fun W hW => hW) Tryz.underlying121 rfl size256, plan_yield ?_⟩
  simp only [Act.put, sgPHLvStep]
  simp only [sgLHLvStep]
  go_wp2_with fail
  refine ⟨rfl, _, .int .i64 (n : Int), rfl, Or.inl ⟨by rfl, fun W hW => by go_simp⟩, plan_yield ?_⟩
  simp only [Act.put, sgPHLvStep]
  simp only [sgLHLvStep]
  go_wp2_with fail
  refine ⟨rfl, _, .int .u32 (n : Int), rfl, Or.inl ⟨by rfl, fun W hW => by go_simp⟩, plan_yield ?_⟩
  simp only [Act.put, sgPHLvStep]
  simp only [sgLHLvStep]
  go_wp2_with fail
  refine ⟨rfl, _, .agg (va 256 (iv .u8 f)), rfl, kyields_load (by rfl) 121 _ (by rfl) w.heap.size 256 (iv .u8 f) (by rfl) _ 121 (fun W hW => hW) Tryz.underlying121 rfl size256, plan_fork ?_ ?_⟩
  simp only [Act.put, sgPHLvStep]
  · simp only [sgLHLvStep]
    have HO : Hid ((wd.alloc (.cells #[] 121)).ownsRow w1.heap.size 121 256 (.slice (some ⟨wd.heap.size, 0, none⟩) 0 0) 0 []) := World.ownsRow_lit wd #[] 0 hwd.size (by decide) rfl
    have HZ : Hid (w1.heap.size ≤ wd.heap.size) := hwd.size
    have HSwa : Hid ((wd.alloc (.cells #[] 121)).heap.size = wd.heap.size + 1) := by
      show _ = _
      simp
    have hba : Below w1.heap.size w1 (wd.alloc (.cells #[] 121)) := hwd.alloc hwd.size _
    go_wp2_with fail
    generalize (wd.alloc (.cells #[] 121)) = wa at *
    generalize wd.heap.size = z0 at *
    refine ⟨rfl, t1.below hba t1.lt, plan_fork ?_ ?_⟩
    · simp only [sgLHLvStep]
      have HIW : Hid (∀ j u, (byL X (n * 256))[j]? = some u → wa.cell? ((⟨ib, 0, none⟩ : Addr).add j) = some u) := below_cells9 HIC.out hba HIL.out
      refine wpList_append_own _ rfl _ _ 65 rfl w1.heap.size 121 i0 (.agg (va 256 (iv .u8 fun _ => 0))) 256 256 Tryz.underlying65 hi hz0 hz1 hz2 (va_size _ _) (by decide) (.slice (some ⟨z0, 0, none⟩) 0 0) 0 [] rfl HO.out ⟨ib, 0, none⟩ n cap (byL X (n * 256)) rfl HLI.out HIW.out HMI.out (by unfold maxLen; omega) (by omega) hba.size ?_
      intro v2 w2 hown2 hgr2 hv2
      simp only [Act.put, sgPHLvStep]
      rw [Nat.zero_add, List.nil_append] at hown2
      have hb2 : Below w1.heap.size w1 w2 := hba.grown hgr2 hba.size (fun k hk => by cases hk; exact HZ.out)
      have HV : Hid (w2.ownsRow w1.heap.size 121 256 v2 n (byL X (n * 256))) := hown2
      obtain ⟨vb, vc, rfl, _, _, _⟩ := own_some HV.out hn1
      go_wp2_with fail
      refine ⟨rfl, t1.below hb2 t1.lt, plan_force ?_⟩
      simp only [sgLHLvStep]
      have HY : Hid (∀ j u, (va 256 (iv .u8 f)).toList[j]? = some u → (w2.alloc (.cells (va 256 (iv .u8 f)) 121)).cell? ((⟨w2.heap.size, 0, none⟩ : Addr).add j) = some u) := cells_new w2 _ _
      have HYL : Hid (w1.heap.size ≤ w2.heap.size) := hb2.size
      have HSwc : Hid ((w2.alloc (.cells (va 256 (iv .u8 f)) 121)).heap.size = w2.heap.size + 1) := by
        show _ = _
        simp
      have hbc : Below w1.heap.size w1 (w2.alloc (.cells (va 256 (iv .u8 f)) 121)) := hb2.alloc hb2.size _
      refine wpList_build1 (by rfl) 65 121 _ (by rfl) (va 256 (iv .u8 f)) (by rfl) i0 _ 256 Tryz.underlying65 hi hz0 hz1 (va_size _ _) (by decide) (by decide) ?_
      simp only [Act.put, sgPHLvStep]
      go_wp2_with fail
      have HV0 := HV
      clear HV
      have HV : Hid ((w2.alloc (.cells (va 256 (iv .u8 f)) 121)).ownsRow w1.heap.size 121 256 (.slice (some ⟨vb, 0, none⟩) n vc) n (byL X (n * 256))) := kown_below HV0.out (below_new1 _ _)
      generalize (w2.alloc (.cells (va 256 (iv .u8 f)) 121)) = wc at *
      generalize w2.heap.size = y0 at *
      refine ⟨rfl, t1.below hbc t1.lt, plan_force ?_⟩
      simp only [sgLHLvStep]
      have HLB : Hid ((va 256 (iv .u8 f)).toList.length = 1 * 256) := by
        show _ = _
        simp [va_size]
      refine wpList_append_own _ rfl _ _ 65 rfl w1.heap.size 121 i0 (.agg (va 256 (iv .u8 fun _ => 0))) 256 256 Tryz.underlying65 hi hz0 hz1 hz2 (va_size _ _) (by decide) (.slice (some ⟨vb, 0, none⟩) n vc) n (byL X (n * 256)) rfl HV.out ⟨y0, 0, none⟩ 1 1 (va 256 (iv .u8 f)).toList rfl HLB.out HY.out (kva_mem_one 256 f) (by unfold maxLen; omega) (by omega) hbc.size ?_
      intro v5 w5 hown5 hgr5 hv5
      simp only [Act.put, sgPHLvStep]
      have hb5 : Below w1.heap.size w1 w5 := hbc.grown hgr5 hbc.size (fun k hk => by cases hk; exact (own_lo HV.out))
      have HV5 : Hid (w5.ownsRow w1.heap.size 121 256 v5 (n + 1) (byL X (n * 256) ++ (va 256 (iv .u8 f)).toList)) := hown5
      obtain ⟨xb, xc, rfl, _, _, _⟩ := own_some HV5.out (Nat.le_add_left 1 n)
      go_wp2_with fail
      refine ⟨rfl, t1.below hb5 t1.lt, plan_force ?_⟩
      simp only [sgLHLvStep]
      go_wp2_with fail
      refine (rsum_any f _).mono ?_
      rintro e w6 ⟨rfl, hb6⟩
      have hb16 : Below w1.heap.size w1 w6 := hb5.trans (hb6.mono hb5.size)
      have HV6 : Hid (w6.ownsRow w1.heap.size 121 256 (.slice (some ⟨xb, 0, none⟩) (n + 1) xc) (n + 1) (byL X (n * 256) ++ (va 256 (iv .u8 f)).toList)) := kown_below HV5.out hb6
      go_wp2_with fail
      refine ⟨rfl, t1.below hb16 t1.lt, plan_yield ?_⟩
      simp only [sgLHLvStep]
      go_wp2_with fail
      refine ⟨rfl, _, .agg (rfC (n, dgB f)), rfl, Or.inl ⟨by rfl, fun W hW => run_build_any (by rfl) (by rfl) (by rfl) HBt.out⟩, plan_force ?_⟩
      simp only [Act.put, sgPHLvStep]
      simp only [sgLHLvStep]
      have r6 := r1.below hb16 r1.lt
      refine wpList_store_row (by rfl) 67 _ _ (by rfl) (w.heap.size + 1) (rfC (n, dgB f)) (by rfl) (by rfl) 67 (rfC rf0) r6 (rsizeRef.trans (by rw [rfC_size])) (by simp only [rfC_size]) (rfC_all _) ?_
      simp only [Act.put, sgPHLvStep]
      go_wp2_with fail
      refine ⟨rfl, (t1.below hb16 t1.lt).other _ (by omega), plan_fin ?_⟩
      simp only [sgLHLvStep]
      go_wp2_with fail
      refine ⟨rfl, ?_⟩
      go_wp2_with fail
      try simp only [Exit.inBlock, Exit.then]
      refine bodyPost_ret (results_tmp_row Tryz.results49 _ _ (w.heap.size + 1) 67 (rfC (n, dgB f)) _ rfl (r6.set _) Tryz.underlying67 rfl (rsizeRef.trans (by rw [rfC_size]))) rfl ?_
      exact ⟨_, rfl, img_more HBW.out (img_setRow HV6.out (by have := HS1.out; omega)) HX.out HF.out HN.out, HN32.out, HOK.out, below_setRow (hb1.trans (hb16.mono hb1.size)) (by omega) _⟩
    · simp only [sgLHLvStep]
      have HY : Hid (∀ j u, (va 256 (iv .u8 f)).toList[j]? = some u → (wa.alloc (.cells (va 256 (iv .u8 f)) 121)).cell? ((⟨wa.heap.size, 0, none⟩ : Addr).add j) = some u) := cells_new wa _ _
      have HYL : Hid (w1.heap.size ≤ wa.heap.size) := hba.size
      have HSwc : Hid ((wa.alloc (.cells (va 256 (iv .u8 f)) 121)).heap.size = wa.heap.size + 1) := by
        show _ = _
        simp
      have hbc : Below w1.heap.size w1 (wa.alloc (.cells (va 256 (iv .u8 f)) 121)) := hba.alloc hba.size _
      refine wpList_build1 (by rfl) 65 121 _ (by rfl) (va 256 (iv .u8 f)) (by rfl) i0 _ 256 Tryz.underlying65 hi hz0 hz1 (va_size _ _) (by decide) (by decide) ?_
      simp only [Act.put, sgPHLvStep]
      go_wp2_with fail
      have HO0 := HO
      clear HO
      have HO : Hid ((wa.alloc (.cells (va 256 (iv .u8 f)) 121)).ownsRow w1.heap.size 121 256 (.slice (some ⟨z0, 0, none⟩) 0 0) 0 []) := kown_below HO0.out (below_new1 _ _)
      generalize (wa.alloc (.cells (va 256 (iv .u8 f)) 121)) = wc at *
      generalize wa.heap.size = y0 at *
      refine ⟨rfl, t1.below hbc t1.lt, plan_force ?_⟩
      simp only [sgLHLvStep]
      have HIW : Hid (∀ j u, (byL X (n * 256))[j]? = some u → wc.cell? ((⟨ib, 0, none⟩ : Addr).add j) = some u) := below_cells9 HIC.out hbc HIL.out
      refine wpList_append_own _ rfl _ _ 65 rfl w1.heap.size 121 i0 (.agg (va 256 (iv .u8 fun _ => 0))) 256 256 Tryz.underlying65 hi hz0 hz1 hz2 (va_size _ _) (by decide) (.slice (some ⟨z0, 0, none⟩) 0 0) 0 [] rfl HO.out ⟨ib, 0, none⟩ n cap (byL X (n * 256)) rfl HLI.out HIW.out HMI.out (by unfold maxLen; omega) (by omega) hbc.size ?_
      intro v2 w2 hown2 hgr2 hv2
      simp only [Act.put, sgPHLvStep]
      rw [Nat.zero_add, List.nil_append] at hown2
      have hb2 : Below w1.heap.size w1 w2 := hbc.grown hgr2 hbc.size (fun k hk => by cases hk; exact HZ.out)
      have HV : Hid (w2.ownsRow w1.heap.size 121 256 v2 n (byL X (n * 256))) := hown2
      obtain ⟨vb, vc, rfl, _, _, _⟩ := own_some HV.out hn1
      go_wp2_with fail
      have HY0 := HY
      clear HY
      have HY : Hid (∀ j u, (va 256 (iv .u8 f)).toList[j]? = some u → w2.cell? ((⟨y0, 0, none⟩ : Addr).add j) = some u) := grown_cells HY0.out hgr2 (fun e => by have h1 := HSwa.out; have h2 : y0 = z0 := Option.some.inj e; omega)
      refine ⟨rfl, t1.below hb2 t1.lt, plan_force ?_⟩
      simp only [sgLHLvStep]
      have HLB : Hid ((va 256 (iv .u8 f)).toList.length = 1 * 256) := by
        show _ = _
        simp [va_size]
      refine wpList_append_own _ rfl _ _ 65 rfl w1.heap.size 121 i0 (.agg (va 256 (iv .u8 fun _ => 0))) 256 256 Tryz.underlying65 hi hz0 hz1 hz2 (va_size _ _) (by decide) (.slice (some ⟨vb, 0, none⟩) n vc) n (byL X (n * 256)) rfl HV.out ⟨y0, 0, none⟩ 1 1 (va 256 (iv .u8 f)).toList rfl HLB.out HY.out (kva_mem_one 256 f) (by unfold maxLen; omega) (by omega) hb2.size ?_
      intro v5 w5 hown5 hgr5 hv5
      simp only [Act.put, sgPHLvStep]
      have hb5 : Below w1.heap.size w1 w5 := hb2.grown hgr5 hb2.size (fun k hk => by cases hk; exact (own_lo HV.out))
      have HV5 : Hid (w5.ownsRow w1.heap.size 121 256 v5 (n + 1) (byL X (n * 256) ++ (va 256 (iv .u8 f)).toList)) := hown5
      obtain ⟨xb, xc, rfl, _, _, _⟩ := own_some HV5.out (Nat.le_add_left 1 n)
      go_wp2_with fail
      refine ⟨rfl, t1.below hb5 t1.lt, plan_force ?_⟩
      simp only [sgLHLvStep]
      go_wp2_with fail
      refine (rsum_any f _).mono ?_
      rintro e w6 ⟨rfl, hb6⟩
      have hb16 : Below w1.heap.size w1 w6 := hb5.trans (hb6.mono hb5.size)
      have HV6 : Hid (w6.ownsRow w1.heap.size 121 256 (.slice (some ⟨xb, 0, none⟩) (n + 1) xc) (n + 1) (byL X (n * 256) ++ (va 256 (iv .u8 f)).toList)) := kown_below HV5.out hb6
      go_wp2_with fail
      refine ⟨rfl, t1.below hb16 t1.lt, plan_yield ?_⟩
      simp only [sgLHLvStep]
      go_wp2_with fail
      refine ⟨rfl, _, .agg (rfC (n, dgB f)), rfl, Or.inl ⟨by rfl, fun W hW => run_build_any (by rfl) (by rfl) (by rfl) HBt.out⟩, plan_force ?_⟩
      simp only [Act.put, sgPHLvStep]
      simp only [sgLHLvStep]
      have r6 := r1.below hb16 r1.lt
      refine wpList_store_row (by rfl) 67 _ _ (by rfl) (w.heap.size + 1) (rfC (n, dgB f)) (by rfl) (by rfl) 67 (rfC rf0) r6 (rsizeRef.trans (by rw [rfC_size])) (by simp only [rfC_size]) (rfC_all _) ?_
      simp only [Act.put, sgPHLvStep]
      go_wp2_with fail
      refine ⟨rfl, (t1.below hb16 t1.lt).other _ (by omega), plan_fin ?_⟩
      simp only [sgLHLvStep]
      go_wp2_with fail
      refine ⟨rfl, ?_⟩
      go_wp2_with fail
      try simp only [Exit.inBlock, Exit.then]
      refine bodyPost_ret (results_tmp_row Tryz.results49 _ _ (w.heap.size + 1) 67 (rfC (n, dgB f)) _ rfl (r6.set _) Tryz.underlying67 rfl (rsizeRef.trans (by rw [rfC_size]))) rfl ?_
      exact ⟨_, rfl, img_more HBW.out (img_setRow HV6.out (by have := HS1.out; omega)) HX.out HF.out HN.out, HN32.out, HOK.out, below_setRow (hb1.trans (hb16.mono hb1.size)) (by omega) _⟩
  · simp only [sgLHLvStep]
    have HY : Hid (∀ j u, (va 256 (iv .u8 f)).toList[j]? = some u → (wd.alloc (.cells (va 256 (iv .u8 f)) 121)).cell? ((⟨wd.heap.size, 0, none⟩ : Addr).add j) = some u) := cells_new wd _ _
    have HYL : Hid (w1.heap.size ≤ wd.heap.size) := hwd.size
    have HSwc : Hid ((wd.alloc (.cells (va 256 (iv .u8 f)) 121)).heap.size = wd.heap.size + 1) := by
      show _ = _
      simp
    have hbc : Below w1.heap.size w1 (wd.alloc (.cells (va 256 (iv .u8 f)) 121)) := hwd.alloc hwd.size _
    refine wpList_build1 (by rfl) 65 121 _ (by rfl) (va 256 (iv .u8 f)) (by rfl) i0 _ 256 Tryz.underlying65 hi hz0 hz1 (va_size _ _) (by decide) (by decide) ?_
    simp only [Act.put, sgPHLvStep]
    go_wp2_with fail
    generalize (wd.alloc (.cells (va 256 (iv .u8 f)) 121)) = wc at *
    generalize wd.heap.size = y0 at *
    refine ⟨rfl, t1.below hbc t1.lt, plan_force ?_⟩
    simp only [sgLHLvStep]
    have HO : Hid ((wc.alloc (.cells #[] 121)).ownsRow w1.heap.size 121 256 (.slice (some ⟨wc.heap.size, 0, none⟩) 0 0) 0 []) := World.ownsRow_lit wc #[] 0 hbc.size (by decide) rfl
    have HZ : Hid (w1.heap.size ≤ wc.heap.size) := hbc.size
    have HSwa : Hid ((wc.alloc (.cells #[] 121)).heap.size = wc.heap.size + 1) := by
      show _ = _
      simp
    have hba : Below w1.heap.size w1 (wc.alloc (.cells #[] 121)) := hbc.alloc hbc.size _
    go_wp2_with fail
    have HY0 := HY
    clear HY
    have HY : Hid (∀ j u, (va 256 (iv .u8 f)).toList[j]? = some u → (wc.alloc (.cells #[] 121)).cell? ((⟨y0, 0, none⟩ : Addr).add j) = some u) := below_cells9 HY0.out (below_new1 wc _) (by have := HSwc.out; omega)
    have HYZ : Hid (y0 ≠ wc.heap.size) := by
      have := HSwc.out
      show _ ≠ _
      omega
    generalize (wc.alloc (.cells #[] 121)) = wa at *
    generalize wc.heap.size = z0 at *
    refine ⟨rfl, t1.below hba t1.lt, plan_force ?_⟩
    simp only [sgLHLvStep]
    have HIW : Hid (∀ j u, (byL X (n * 256))[j]? = some u → wa.cell? ((⟨ib, 0, none⟩ : Addr).add j) = some u) := below_cells9 HIC.out hba HIL.out
    refine wpList_append_own _ rfl _ _ 65 rfl w1.heap.size 121 i0 (.agg (va 256 (iv .u8 fun _ => 0))) 256 256 Tryz.underlying65 hi hz0 hz1 hz2 (va_size _ _) (by decide) (.slice (some ⟨z0, 0, none⟩) 0 0) 0 [] rfl HO.out ⟨ib, 0, none⟩ n cap (byL X (n * 256)) rfl HLI.out HIW.out HMI.out (by unfold maxLen; omega) (by omega) hba.size ?_
    intro v2 w2 hown2 hgr2 hv2
    simp only [Act.put, sgPHLvStep]
    rw [Nat.zero_add, List.nil_append] at hown2
    have hb2 : Below w1.heap.size w1 w2 := hba.grown hgr2 hba.size (fun k hk => by cases hk; exact HZ.out)
    have HV : Hid (w2.ownsRow w1.heap.size 121 256 v2 n (byL X (n * 256))) := hown2
    obtain ⟨vb, vc, rfl, _, _, _⟩ := own_some HV.out hn1
    go_wp2_with fail
    have HY1 := HY
    clear HY
    have HY : Hid (∀ j u, (va 256 (iv .u8 f)).toList[j]? = some u → w2.cell? ((⟨y0, 0, none⟩ : Addr).add j) = some u) := grown_cells HY1.out hgr2 (fun e => HYZ.out (Option.some.inj e))
    refine ⟨rfl, t1.below hb2 t1.lt, plan_force ?_⟩
    simp only [sgLHLvStep]
    have HLB : Hid ((va 256 (iv .u8 f)).toList.length = 1 * 256) := by
      show _ = _
      simp [va_size]
    refine wpList_append_own _ rfl _ _ 65 rfl w1.heap.size 121 i0 (.agg (va 256 (iv .u8 fun _ => 0))) 256 256 Tryz.underlying65 hi hz0 hz1 hz2 (va_size _ _) (by decide) (.slice (some ⟨vb, 0, none⟩) n vc) n (byL X (n * 256)) rfl HV.out ⟨y0, 0, none⟩ 1 1 (va 256 (iv .u8 f)).toList rfl HLB.out HY.out (kva_mem_one 256 f) (by unfold maxLen; omega) (by omega) hb2.size ?_
    intro v5 w5 hown5 hgr5 hv5
    simp only [Act.put, sgPHLvStep]
    have hb5 : Below w1.heap.size w1 w5 := hb2.grown hgr5 hb2.size (fun k hk => by cases hk; exact (own_lo HV.out))
    have HV5 : Hid (w5.ownsRow w1.heap.size 121 256 v5 (n + 1) (byL X (n * 256) ++ (va 256 (iv .u8 f)).toList)) := hown5
    obtain ⟨xb, xc, rfl, _, _, _⟩ := own_some HV5.out (Nat.le_add_left 1 n)
    go_wp2_with fail
    refine ⟨rfl, t1.below hb5 t1.lt, plan_force ?_⟩
    simp only [sgLHLvStep]
    go_wp2_with fail
    refine (rsum_any f _).mono ?_
    rintro e w6 ⟨rfl, hb6⟩
    have hb16 : Below w1.heap.size w1 w6 := hb5.trans (hb6.mono hb5.size)
    have HV6 : Hid (w6.ownsRow w1.heap.size 121 256 (.slice (some ⟨xb, 0, none⟩) (n + 1) xc) (n + 1) (byL X (n * 256) ++ (va 256 (iv .u8 f)).toList)) := kown_below HV5.out hb6
    go_wp2_with fail
    refine ⟨rfl, t1.below hb16 t1.lt, plan_yield ?_⟩
    simp only [sgLHLvStep]
    go_wp2_with fail
    refine ⟨rfl, _, .agg (rfC (n, dgB f)), rfl, Or.inl ⟨by rfl, fun W hW => run_build_any (by rfl) (by rfl) (by rfl) HBt.out⟩, plan_force ?_⟩
    simp only [Act.put, sgPHLvStep]
    simp only [sgLHLvStep]
    have r6 := r1.below hb16 r1.lt
    refine wpList_store_row (by rfl) 67 _ _ (by rfl) (w.heap.size + 1) (rfC (n, dgB f)) (by rfl) (by rfl) 67 (rfC rf0) r6 (rsizeRef.trans (by rw [rfC_size])) (by simp only [rfC_size]) (rfC_all _) ?_
    simp only [Act.put, sgPHLvStep]
    go_wp2_with fail
    refine ⟨rfl, (t1.below hb16 t1.lt).other _ (by omega), plan_fin ?_⟩
    simp only [sgLHLvStep]
    go_wp2_with fail
    refine ⟨rfl, ?_⟩
    go_wp2_with fail
    try simp only [Exit.inBlock, Exit.then]
    refine bodyPost_ret (results_tmp_row Tryz.results49 _ _ (w.heap.size + 1) 67 (rfC (n, dgB f)) _ rfl (r6.set _) Tryz.underlying67 rfl (rsizeRef.trans (by rw [rfC_size]))) rfl ?_
    exact ⟨_, rfl, img_more HBW.out (img_setRow HV6.out (by have := HS1.out; omega)) HX.out HF.out HN.out, HN32.out, HOK.out, below_setRow (hb1.trans (hb16.mono hb1.size)) (by omega) _⟩
theorem okD_dgB (f : Nat → Nat) : okD (dgB f) := okD_sum _ fun i _ => by
  unfold sumOf ofC
  exact sum_lt _ _
/-- Put, whatever the block -/
theorem put9_any {B n : Nat} {v : Value} {X : Nat → Nat} (f : Nat → Nat) (hf : ∀ j, f j < 256) (hn : n ≤ 8192) (w : World) (hBw : B ≤ w.heap.size) (hI : Img w B v n X) : Calls Tryz.prog 49 #[v, .agg (va 256 (iv .u8 f))] w fun e w' => ∃ v' n' X' r, e = .returned (.tuple #[v', .agg (rfC r)]) ∧ Img w' B v' n' X' ∧ PutR X n f X' n' r ∧ r.1 < 4294967296 ∧ okD r.2 ∧ Below w.heap.size w w' := by
  by_cases h : bkSame f fun _ => 0
  · refine (put9_none f h w hI).mono ?_
    rintro e w' ⟨rfl, hb⟩
    exact ⟨v, n, X, rf0, rfl, hI.below hb, .inl ⟨h, rfl, rfl, rfl⟩, by decide, okD_zero, hb⟩
  · refine (put9_more f h hf (okD_dgB f) hn w hBw hI).mono ?_
    rintro e w' ⟨v', rfl, h1, h2, h3, hb⟩
    exact ⟨v', n + 1, _, (n, dgB f), rfl, h1, .inr ⟨h, rfl, rfl, rfl⟩, h2, h3, hb⟩
end Go.Proofs.YtppagdmlfgialaaGreatDoor

namespace Go.Proofs.YtppagdmlfgialaaGreatDoor
open Go Go.RowKit
set_option linter.unusedSimpArgs false
set_option linter.unusedVariables false

theorem img_setAny {w : World} {B n g : Nat} {v : Value} {xs : List Value} {cs old : Array Value} (h : w.ownsRow B 121 256 v n xs) (hg : Blk w g 67 old) : (w.setRow g cs).ownsRow B 121 256 v n xs := by
  refine ⟨h.1, ?_⟩
  rcases h.2 with hn | ⟨b, cap, cur, rfl, hb, hbb, rest⟩
  · exact .inl hn
  · refine .inr ⟨b, cap, cur, rfl, hb, (show Blk w b 121 cur from hbb).other cs (fun e => ?_), rest⟩
    subst e
    have h1 := hbb.symm.trans (show w.heap[b]? = _ from hg)
    injection h1 with h1
    injection h1 with h1 h2
    revert h2
    decide
/-- what lay answers: an image that is longer by at most c blocks and begins as it was, and a reference beneath which the leaves of a position hang -/
def LayR (w : World) (B n c : Nat) (X : Nat → Nat) (l p : Nat) (L : List (Int × (Nat → Nat))) (e : Ending) (w' : World) : Prop := ∃ v' n' X' r, e = .returned (.tuple #[v', .agg (rfC r)]) ∧ Img w' B v' n' X' ∧ (n ≤ n' ∧ n' ≤ n + c ∧ ∀ x, x < n * 256 → X' x = X x) ∧ (r.1 < 4294967296 ∧ okD r.2) ∧ Has X' n' l r (fun q => gJ L ((p * 4 ^ l + q : Nat) : Int)) ∧ Below w.heap.size w w'
set_option maxRecDepth 100000 in
set_option maxHeartbeats 4000000 in
theorem lay9_zero {B n m : Nat} {v : Value} {X : Nat → Nat} {L : List (Int × (Nat → Nat))} (hL : LvOk L) (p : Nat) (hn : n ≤ 8192) (w : World) (hBw : B ≤ w.heap.size) (hm : JM lfV w m L) (hI : Img w B v n X) : Calls Tryz.prog 91 #[v, .int .i64 0, .int .i64 (p : Int), .map (some m)] w fun e w' => LayR w B n 1 X 0 p L e w' := by
  have hzr := zero_rref
  have hb1 : Below w.heap.size w (w.alloc (.cells (rfC rf0) 67)) := below_new1 w _
  have r1 : Blk (w.alloc (.cells (rfC rf0) 67)) w.heap.size 67 (rfC rf0) := Blk.new w _ _
  have hlk := JM.leaf (P := Tryz.prog) Tryz.underlying95 Tryz.underlying3 zero_256 (hm.below hb1 hm.lt) (p : Int)
  have hf : ∀ j, gJ L (p : Int) j < 256 := gJ_byte hL _
  have HG : Hid (∀ j, j < 256 → gJ L ((p * 4 ^ 0 + 0 : Nat) : Int) j = gJ L (p : Int) j) := fun j _ => by simp
  generalize gJ L (p : Int) = f at *
  have HN1 : Hid (1 ≤ n) := hI.2.2
  unfold lfV at hlk
  obtain ⟨ib, cap, rfl, _, _, _⟩ := own_some hI.1 hI.2.2
  have HPut : Hid (∀ W, Below w.heap.size w W → Calls Tryz.prog 49 #[.slice (some ⟨ib, 0, none⟩) n cap, .agg (va 256 (iv .u8 f))] W fun e w' => ∃ v' n' X' r, e = .returned (.tuple #[v', .agg (rfC r)]) ∧ Img w' B v' n' X' ∧ PutR X n f X' n' r ∧ r.1 < 4294967296 ∧ okD r.2 ∧ Below W.heap.size W w') := fun W hW => put9_any f hf hn W (Nat.le_trans hBw hW.size) (hI.below hW)
  clear hI hm hf
  go_enter Tryz.func91, Tryz.ntmps91
  go_wp2_with fail
  generalize (w.alloc (.cells (rfC rf0) 67)) = w1 at *
  refine (HPut.out _ hb1).mono ?_
  rintro e w2 ⟨v', n', X', r, rfl, h1, h2, h3, h4, hb2⟩
  have r2 := r1.below hb2 r1.lt
  have HB2 : Hid (Below w.heap.size w w2) := hb1.trans (hb2.mono hb1.size)
  obtain ⟨vb, vc, rfl, _, _, _⟩ := own_some h1.1 h1.2.2
  have H2 : Hid (PutR X n f X' n' r ∧ r.1 < 4294967296 ∧ okD r.2) := ⟨h2, h3, h4⟩
  have HS : Hid (Img (w2.setRow w.heap.size (rfC r)) B (.slice (some ⟨vb, 0, none⟩) n' vc) n' X') := ⟨img_setAny h1.1 r2, h1.2⟩
  clear h1 h2 h3 h4 hb2 hb1 r1 hlk
  go_wp2_with (first
    | (refine wpList_store_row (by rfl) 67 _ _ (by rfl) (w.heap.size) (rfC r) (by rfl) (by rfl) 67 (rfC rf0) (by exact r2) (rsizeRef.trans (by rw [rfC_size])) (by simp only [rfC_size]) (rfC_all _) ?_; simp only [Act.put, sgPHLvStep])
    | fail)
  try simp only [Exit.inBlock, Exit.then]
  refine bodyPost_ret (results_tmp_row Tryz.results91 _ _ (w.heap.size) 67 (rfC r) _ rfl (r2.set _) Tryz.underlying67 rfl (rsizeRef.trans (by rw [rfC_size]))) rfl ?_
  exact ⟨_, n', X', r, rfl, HS.out, putR_ext H2.out.1, H2.out.2, Has.leaf HN1.out H2.out.1 HG.out, below_setRow HB2.out (by omega) _⟩
end Go.Proofs.YtppagdmlfgialaaGreatDoor

namespace Go.Proofs.YtppagdmlfgialaaGreatDoor
open Go Go.RowKit
set_option linter.unusedSimpArgs false
set_option linter.unusedVariables false

theorem rsizeTr : (Tryz.prog.info? 118).map (·.size) = some 34 := by kernel_rfl
section
variable {F : Nat → Nat} {N : Nat}
end
end Go.Proofs.YtppagdmlfgialaaGreatDoor

namespace Go.Proofs.YtppagdmlfgialaaGreatDoor
open Go Go.RowKit
set_option linter.unusedSimpArgs false
set_option linter.unusedVariables false

theorem built_tr (h : Int) (R : Rf) : Tryz.prog.built 46 [(0, .int .i64 h), (1, .agg (rfC R))] = some (trC h R) := by kernel_rfl
end Go.Proofs.YtppagdmlfgialaaGreatDoor

namespace Go.Proofs.YtppagdmlfgialaaGreatDoor
open Go Go.RowKit
set_option linter.unusedSimpArgs false
set_option linter.unusedVariables false

theorem img_setTree {w : World} {B n g : Nat} {v : Value} {xs : List Value} {cs old : Array Value} (h : w.ownsRow B 121 256 v n xs) (hg : Blk w g 118 old) : (w.setRow g cs).ownsRow B 121 256 v n xs := by
  refine ⟨h.1, ?_⟩
  rcases h.2 with hn | ⟨b, cap, cur, rfl, hb, hbb, rest⟩
  · exact .inl hn
  · refine .inr ⟨b, cap, cur, rfl, hb, (show Blk w b 121 cur from hbb).other cs (fun e => ?_), rest⟩
    subst e
    have h1 := hbb.symm.trans (show w.heap[b]? = _ from hg)
    injection h1 with h1
    injection h1 with h1 h2
    revert h2
    decide
theorem rtop_zero (w : World) : (zeroValue 118).run Tryz.prog w = .ok (.agg (trC 0 rf0)) w := zero_of (by kernel_rfl) w
theorem rtop_built (h : Int) (R : Rf) : Tryz.prog.built 118 [(0, .int .i64 h), (1, .agg (rfC R))] = some (trC h R) := by kernel_rfl
set_option maxRecDepth 100000 in
set_option maxHeartbeats 4000000 in
theorem lay9_top {B n c m : Nat} {v : Value} {X : Nat → Nat} {L : List (Int × (Nat → Nat))} (l : Nat) (h : Int) (w : World) (hI : Img w B v n X) (hlay : ∀ W, Below w.heap.size w W → Calls Tryz.prog 91 #[v, .int .i64 h, .int .i64 0, .map (some m)] W fun e w' => LayR W B n c X l 0 L e w') : Calls Tryz.prog 42 #[v, .int .i64 h, .map (some m)] w fun e w' => ∃ v' n' X' r, e = .returned (.tuple #[v', .agg (trC h r)]) ∧ Img w' B v' n' X' ∧ (n ≤ n' ∧ n' ≤ n + c ∧ ∀ x, x < n * 256 → X' x = X x) ∧ (r.1 < 4294967296 ∧ okD r.2) ∧ Has X' n' l r (fun q => gJ L ((0 * 4 ^ l + q : Nat) : Int)) ∧ Below w.heap.size w w' := by
  have hz := rtop_zero
  have hzr := zero_rref
  have hb1 : Below w.heap.size w (w.alloc (.cells (trC 0 rf0) 118)) := below_new1 w _
  have t1 : Blk (w.alloc (.cells (trC 0 rf0) 118)) w.heap.size 118 (trC 0 rf0) := Blk.new w _ _
  obtain ⟨ib, cap, rfl, _, _, _⟩ := own_some hI.1 hI.2.2
  have HL : Hid (∀ W, Below w.heap.size w W → Calls Tryz.prog 91 #[.slice (some ⟨ib, 0, none⟩) n cap, .int .i64 h, .int .i64 0, .map (some m)] W fun e w' => LayR W B n c X l 0 L e w') := hlay
  clear hI hlay
  go_enter Tryz.func42, Tryz.ntmps42
  go_wp2_with fail
  generalize (w.alloc (.cells (trC 0 rf0) 118)) = w1 at *
  refine (HL.out _ hb1).mono ?_
  rintro e w2 ⟨v', n', X', r, rfl, h1, h2, h3, h4, hb2⟩
  have HBt : Hid (Tryz.prog.built 118 [(0, .int .i64 h), (1, .agg (rfC r))] = some (trC h r)) := rtop_built h r
  have t2 := t1.below hb2 t1.lt
  have hb02 : Below w.heap.size w w2 := hb1.trans (hb2.mono hb1.size)
  obtain ⟨vb, vc, rfl, _, _, _⟩ := own_some h1.1 h1.2.2
  have q0 := Blk.new w2 67 (rfC rf0)
  have q3 := q0.set (rfC r)
  have hb3 : Below w2.heap.size w2 ((w2.alloc (.cells (rfC rf0) 67)).setRow w2.heap.size (rfC r)) := below_setRow (below_new1 _ _) (Nat.le_refl _) _
  have t3 := t2.below hb3 t2.lt
  have H1 : Hid (Img ((w2.alloc (.cells (rfC rf0) 67)).setRow w2.heap.size (rfC r)) B (.slice (some ⟨vb, 0, none⟩) n' vc) n' X') := h1.below hb3
  have H2 : Hid ((n ≤ n' ∧ n' ≤ n + c ∧ ∀ x, x < n * 256 → X' x = X x) ∧ (r.1 < 4294967296 ∧ okD r.2) ∧ Has X' n' l r (fun q => gJ L ((0 * 4 ^ l + q : Nat) : Int))) := ⟨h2, h3, h4⟩
  have HB3 : Hid (Below w.heap.size w ((w2.alloc (.cells (rfC rf0) 67)).setRow w2.heap.size (rfC r))) := hb02.trans (hb3.mono hb02.size)
  clear h1 h2 h3 h4 hb2 hb1 t1 t2 hb3 hb02 HL
  go_wp2_with (first
    | (refine wpList_store_row (by rfl) 67 _ _ (by rfl) (w2.heap.size) (rfC r) (by rfl) (by rfl) 67 (rfC rf0) (by exact q0) (rsizeRef.trans (by rw [rfC_size])) (by simp only [rfC_size]) (rfC_all _) ?_; simp only [Act.put, sgPHLvStep])
    | fail)
  clear q0
  generalize ((w2.alloc (.cells (rfC rf0) 67)).setRow w2.heap.size (rfC r)) = w3 at *
  generalize w2.heap.size = xb at *
  have x3 : Blk w3.drew xb 67 (rfC r) := q3
  have t3d : Blk w3.drew w.heap.size 118 (trC 0 rf0) := t3
  refine wp_region_partsS (fun W => Blk W xb 67 (rfC r)) [([0, 1, 4], 2, true), ([], 3, true)] [] [5] (by kernel_rfl) (by kernel_rfl) x3 (partsI_yield ?_)
  simp only [sgLHLvStep]
  go_wp2_with fail
  refine ⟨rfl, _, .agg (rfC r), rfl, kyields_load (by rfl) 67 _ (by rfl) xb 33 (rfF r.1 r.2) (by rfl) _ 67 (fun W hW => hW) Tryz.underlying67 rfl rsizeRef, partsI_yield ?_⟩
  simp only [Act.put, sgPHLvStep]
  simp only [sgLHLvStep]
  go_wp2_with fail
  refine ⟨rfl, _, .agg (trC h r), rfl, Or.inl ⟨by rfl, fun W hW => run_build_any (by rfl) (by rfl) (by rfl) HBt.out⟩, partsI_last ?_⟩
  simp only [Act.put, sgPHLvStep]
  simp only [sgLHLvStep]
  refine wpList_store_row (by rfl) 118 _ _ (by rfl) (w.heap.size) (trC h r) (by rfl) (by rfl) 118 (trC 0 rf0) t3d (rsizeTr.trans (by rw [trC_size])) (by simp only [trC_size]) (trC_all _ _) ?_
  simp only [Act.put, sgPHLvStep]
  go_wp2_with fail
  refine ⟨rfl, ?_⟩
  go_wp2_with fail
  try simp only [Exit.inBlock, Exit.then]
  refine bodyPost_ret (results_tmp_row Tryz.results42 _ _ (w.heap.size) 118 (trC h r) _ rfl (t3d.set _) Tryz.underlying118 rfl (rsizeTr.trans (by rw [trC_size]))) rfl ?_
  exact ⟨_, n', X', r, rfl, ⟨img_setTree (H1.out.below (Below.refl _ _).drew).1 t3d, H1.out.2⟩, H2.out.1, H2.out.2.1, H2.out.2.2, below_setRow HB3.out.drew (by omega) _⟩
end Go.Proofs.YtppagdmlfgialaaGreatDoor

namespace Go.Proofs.YtppagdmlfgialaaGreatDoor
open Go Go.RowKit
set_option linter.unusedSimpArgs false
set_option linter.unusedVariables false

theorem arr_mem {cs : Array Value} (h : cs.all (·.oneCell') = true) : ∀ v ∈ cs.toList, v.oneCell' = true := fun v hv => by
  rw [← Array.all_toList] at h
  exact List.all_eq_true.1 h v hv
theorem wrap64_at (n : Int) (h : -9223372036854775808 ≤ n ∧ n ≤ 9223372036854775807) : wrap64 n = n := by unfold wrap64; omega
theorem blk_apart {w : World} {b g t u : Nat} {cs ds : Array Value} (hb : Blk w b t cs) (hg : Blk w g u ds) (h : t ≠ u) : b ≠ g := fun e => by
  subst e
  have h1 := (show w.heap[b]? = _ from hb).symm.trans (show w.heap[b]? = _ from hg)
  injection h1 with h1
  injection h1 with h1 h2
  exact h h2
end Go.Proofs.YtppagdmlfgialaaGreatDoor
