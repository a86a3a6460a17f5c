/- The document's answer for roots: MapLeaves, Check, Fits; a root as the document has it. -/
import Derived.Test.YtalnfphlhcojcaaHIoTake
import Derived.BigQuiet
import Derived.Deep.QuietTactic
import Derived.Handy
import Derived.Test.YtalnfphlhcojcaaHSuOpen

namespace Go.Proofs.Ytalnfphlhcojcaa
open Go Go.RowKit
set_option linter.unusedSimpArgs false
set_option linter.unusedVariables false
set_option maxRecDepth 20000
/-- a reference, or none where it is not right -/
def rtR (r : Rf) : Rf := if rOk r then r else rf0
/-- the root that bytes say -/
def prR (f : Nat → Nat) : Sup := ⟨(le4f f 8 : Int), le8f f 16, (le4f f 24 : Int), decR (strN f 256) 32, (le4f f 28 : Int), (le4f f 68 : Int), decR (strN f 256) 72, (le4f f 108 : Int)⟩
/-- as the program takes it -/
def prB (f : Nat → Nat) : Sup := ⟨(le4f f 8 : Int), le8f f 16, (le4f f 24 : Int), rtR (decR (strN f 256) 32), (le4f f 28 : Int), (le4f f 68 : Int), rtR (decR (strN f 256) 72), (le4f f 108 : Int)⟩
theorem sle4_lt (f : Nat → Nat) (hf : ∀ i, f i < 256) (o : Nat) : le4f f o < 4294967296 := by
  have := hf o; have := hf (o + 1); have := hf (o + 2); have := hf (o + 3)
  unfold le4f le4; omega
theorem sle8_lt (f : Nat → Nat) (hf : ∀ i, f i < 256) (o : Nat) : le8f f o < 18446744073709551616 := by
  have := hf o; have := hf (o + 1); have := hf (o + 2); have := hf (o + 3); have := hf (o + 4); have := hf (o + 5); have := hf (o + 6); have := hf (o + 7)
  unfold le8f le8; omega
theorem decR_lt (s : ByteArray) (a : Nat) : (decR s a).1 < 4294967296 := at4_lt s a
theorem rtR_lt (r : Rf) (h : r.1 < 4294967296) : (rtR r).1 < 4294967296 := by
  unfold rtR
  split
  · exact h
  · decide
theorem rtR_ok (r : Rf) (h : okD r.2) : okD (rtR r).2 := by
  unfold rtR
  split
  · exact h
  · exact okD_zero
theorem prR_w (f : Nat → Nat) (hf : ∀ i, f i < 256) : SuW (prR f) := by
  have h8 := sle4_lt f hf 8; have h24 := sle4_lt f hf 24; have h28 := sle4_lt f hf 28; have h68 := sle4_lt f hf 68; have h108 := sle4_lt f hf 108
  exact ⟨⟨by show _ ≤ ((le4f f 8 : Nat) : Int); omega, by show ((le4f f 8 : Nat) : Int) ≤ _; omega⟩, sle8_lt f hf 16, ⟨by show _ ≤ ((le4f f 24 : Nat) : Int); omega, by show ((le4f f 24 : Nat) : Int) ≤ _; omega⟩, decR_lt _ _, decR_ok _ _,
    ⟨by show _ ≤ ((le4f f 28 : Nat) : Int); omega, by show ((le4f f 28 : Nat) : Int) ≤ _; omega⟩, ⟨by show _ ≤ ((le4f f 68 : Nat) : Int); omega, by show ((le4f f 68 : Nat) : Int) ≤ _; omega⟩, decR_lt _ _, decR_ok _ _, ⟨by show _ ≤ ((le4f f 108 : Nat) : Int); omega, by show ((le4f f 108 : Nat) : Int) ≤ _; omega⟩⟩
theorem prB_w (f : Nat → Nat) (hf : ∀ i, f i < 256) : SuW (prB f) := by
  have h := prR_w f hf
  exact ⟨h.b, h.c, h.th, rtR_lt _ h.ta, rtR_ok _ h.td, h.n, h.mh, rtR_lt _ h.ma, rtR_ok _ h.md, h.u⟩
theorem rtR_at (r : Rf) : (rtR r).1 = r.1 := by
  unfold rtR
  by_cases h : rOk r = true
  · rw [if_pos h]
  · rw [if_neg h]
    unfold rOk at h
    simp only [Bool.or_eq_true, decide_eq_true_eq, not_or, Decidable.not_not] at h
    exact h.2.symm
theorem rtR_eq (r : Rf) (h : r.1 ≠ 0) : rtR r = r := by
  unfold rtR
  rw [if_pos]
  unfold rOk
  simp [h]
theorem sck_like (x y : Sup) (h1 : x.b = y.b) (h2 : x.u = y.u) (h3 : x.n = y.n) (h4 : x.th = y.th) (h5 : x.mh = y.mh) (h6 : x.tr.1 = y.tr.1) (h7 : x.mr.1 = y.mr.1) : sck x = sck y := by
  unfold sck sDisk sHgt sPl
  rw [h1, h2, h3, h4, h5, h6, h7]
theorem prB_sck (f : Nat → Nat) : sck (prB f) = sck (prR f) := sck_like _ _ rfl rfl rfl rfl rfl (rtR_at _) (rtR_at _)
theorem prB_eq (f : Nat → Nat) (h : sck (prR f) = true) : prB f = prR f := by
  have k := sck_all _ h
  have e1 : rtR (decR (strN f 256) 32) = decR (strN f 256) 32 := rtR_eq _ k.2.2.2.2.2.2.1.1
  have e2 : rtR (decR (strN f 256) 72) = decR (strN f 256) 72 := rtR_eq _ k.2.2.2.2.2.2.2.1.1
  unfold prB prR
  rw [e1, e2]
/-- is it a root? what Decode answers -/
def sdOk (f : Nat → Nat) : Bool := sck (prR f) && decide (bkSame (suB (prR f)) f)
def sdV (f : Nat → Nat) : Sup := if sdOk f = true then prR f else su0
def sdE (f : Nat → Nat) : Int := if sdOk f = true then 0 else 200
theorem su_build2 {P : Program} {ops : Array Oper} {rest : List Oper} {o : Oper} {a : Act} {w : World} {Q : Exit → Act → World → Prop} (hg : o.guard = none) (t : TypeId) (x y : Operand) (ho : o.op = .build t #[(0, x), (1, y)]) (vx vy : Value) (hx : a.eval x = vx) (hy : a.eval y = vy)
    (cells : Array Value) (hf : P.built t [(0, vx), (1, vy)] = some cells) (h : wpList P ops Q rest (a.put o.dst (.agg cells)) w) : wpList P ops Q (o :: rest) a w := by
  refine wpList_buildTo hg t _ ho o.dst rfl cells ?_ h
  have e : (Array.map (fun (x : Nat × Operand) => match x with | (i, x) => (i, a.eval x)) #[(0, x), (1, y)]).toList = [(0, vx), (1, vy)] := by simp [hx, hy]
  rw [e]
  exact hf
theorem su_build6 {P : Program} {ops : Array Oper} {rest : List Oper} {o : Oper} {a : Act} {w : World} {Q : Exit → Act → World → Prop} (hg : o.guard = none) (t : TypeId) (x0 x1 x2 x3 x4 x5 : Operand) (ho : o.op = .build t #[(0, x0), (1, x1), (2, x2), (3, x3), (4, x4), (5, x5)]) (v0 v1 v2 v3 v4 v5 : Value) (h0 : a.eval x0 = v0) (h1 : a.eval x1 = v1) (h2 : a.eval x2 = v2) (h3 : a.eval x3 = v3) (h4 : a.eval x4 = v4) (h5 : a.eval x5 = v5)
    (cells : Array Value) (hf : P.built t [(0, v0), (1, v1), (2, v2), (3, v3), (4, v4), (5, v5)] = some cells) (h : wpList P ops Q rest (a.put o.dst (.agg cells)) w) : wpList P ops Q (o :: rest) a w := by
  refine wpList_buildTo hg t _ ho o.dst rfl cells ?_ h
  have e : (Array.map (fun (x : Nat × Operand) => match x with | (i, x) => (i, a.eval x)) #[(0, x0), (1, x1), (2, x2), (3, x3), (4, x4), (5, x5)]).toList = [(0, v0), (1, v1), (2, v2), (3, v3), (4, v4), (5, v5)] := by simp [h0, h1, h2, h3, h4, h5]
  rw [e]
  exact hf
theorem sbuilt_tree (h : Int) (r : Rf) : Try.prog.built 29 [(0, .int .i64 h), (1, .agg (rfC r))] = some (tiC h r) := by kernel_rfl
theorem sbuilt_sup (x : Sup) : Try.prog.built 31 [(0, .int .i64 x.b), (1, .int .u64 ((x.c : Nat) : Int)), (2, .agg (tiC x.th x.tr)), (3, .int .i64 x.n), (4, .agg (tiC x.mh x.mr)), (5, .int .i64 x.u)] = some (suC x) := by kernel_rfl
theorem results_cell1 {P : Program} {fn : Func} {p : Tmp} {ty : TypeId} (h : fn.results = #[.cell p ty]) (tmps : Array Value) (w : World) (g : Nat) (t : TypeId) (cs : Array Value) (fr : Nat × Nat) (d : TypeDesc)
    (hp : tmps.getD p undef = .pointer (some ⟨g, 0, none⟩)) (hg : w.heap[g]? = some (.cells cs t fr))
    (hu : P.underlying ty = some d) (hd : (match d with | .struct _ | .array _ _ => true | _ => false) = true) (hi : (P.info? ty).map (·.size) = some cs.size) :
    (results fn tmps).run P w = .ok (.agg cs) w := results_cell_row h tmps w g t cs fr d hp hg hu hd hi
set_option maxRecDepth 100000 in
set_option maxHeartbeats 4000000 in
theorem snumber_any (f : Nat → Nat) (hf : ∀ i, f i < 256) (r : Nat) (h : r + 4 ≤ 256) (w : World) : Calls Try.prog 41 #[bkV f, .int .i64 (r : Int)] w fun e w' => e = .returned (.int .i64 ((le4f f r : Nat) : Int)) ∧ Below w.heap.size w w' := by
  have HT : Hid (∀ w, Calls Try.prog 44 #[bkV f, .int .i64 (r : Int)] w fun e w' => e = .returned (.tuple #[.int .u32 (le4f f r : Int), .int .i64 0]) ∧ Below w.heap.size w w') := take32_fit f hf r h
  have hl := sle4_lt f hf r
  generalize le4f f r = n at *
  have hw : IntKind.i64.wrap (n : Int) = (n : Int) := by rw [IntKind.wrap_i64]; omega
  unfold bkV at *
  have r0 : Blk (w.alloc (.cells (va 256 (iv .u8 f)) 33)) w.heap.size 33 (va 256 (iv .u8 f)) := Blk.new _ _ _
  have hb : Below w.heap.size w (w.alloc (.cells (va 256 (iv .u8 f)) 33)) := below_new1 _ _
  go_enter Try.func41, Try.ntmps41
  go_wp2_with (first | (refine wpList_load_rowg (by rfl) 33 _ (by rfl) (w.heap.size) (by rfl) 33 (va 256 (iv .u8 (f))) (0, 0) _ (by exact r0) Try.underlying33 (by rfl) (sizeBk.trans (by rw [va_size])) ?_; simp only [Act.put, List.setIfInBounds_toArray, List.set_cons_zero, List.set_cons_succ]) | fail)
  generalize (w.alloc (.cells (va 256 (iv .u8 f)) 33)) = W at *
  refine (HT.out _).mono ?_
  rintro e w1 ⟨rfl, hb1⟩
  have hb2 : Below w.heap.size w w1 := hb.trans (hb1.mono hb.size)
  go_wp2_with fail
  go_ret
  exact ⟨rfl, hb2⟩
set_option maxRecDepth 100000 in
set_option maxHeartbeats 4000000 in
theorem slaid_any (f : Nat → Nat) (hf : ∀ i, f i < 256) (r q : Nat) (h : r + 4 ≤ 256) (h2 : q + 36 ≤ 256) (w : World) : Calls Try.prog 42 #[bkV f, .int .i64 (r : Int), .int .i64 (q : Int)] w fun e w' => e = .returned (.agg (tiC ((le4f f r : Nat) : Int) (rtR (decR (strN f 256) q)))) ∧ Below w.heap.size w w' := by
  have hz := zero_ti
  have hz2 := zero_ref
  have HN : Hid (∀ w, Calls Try.prog 41 #[bkV f, .int .i64 (r : Int)] w fun e w' => e = .returned (.int .i64 ((le4f f r : Nat) : Int)) ∧ Below w.heap.size w w') := snumber_any f hf r h
  have HX : Hid (∀ w, Calls Try.prog 46 #[bkV f] w fun e w' => e = .returned (.string (strN f 256)) ∧ Below w.heap.size w w') := textOf_any f
  have HD : Hid (∀ w, Calls Try.prog 45 #[.string (strN f 256), .int .i64 (q : Int)] w fun e w' => e = .returned (.tuple #[.agg (rfC (rtR (decR (strN f 256) q))), .bool (rOk (decR (strN f 256) q))]) ∧ Below w.heap.size w w') := decodeR_good (strN f 256) q (by rw [strN_size]; decide) (by rw [strN_size]; exact h2)
  generalize rOk (decR (strN f 256) q) = ok at *
  generalize rtR (decR (strN f 256) q) = R at *
  generalize le4f f r = n at *
  generalize strN f 256 = TX at *
  have hbt := sbuilt_tree (n : Int) R
  unfold bkV at *
  have r0 : Blk ((w.alloc (.cells (va 256 (iv .u8 f)) 33)).alloc (.cells (tiC 0 rf0) 29)) w.heap.size 33 (va 256 (iv .u8 f)) := (Blk.new _ _ _).alloc _
  have r1 : Blk ((w.alloc (.cells (va 256 (iv .u8 f)) 33)).alloc (.cells (tiC 0 rf0) 29)) (w.heap.size + 1) 29 (tiC 0 rf0) := Blk.new1 _ _ _ _
  have hb : Below w.heap.size w ((w.alloc (.cells (va 256 (iv .u8 f)) 33)).alloc (.cells (tiC 0 rf0) 29)) := below_new2 _ _ _
  go_enter Try.func42, Try.ntmps42
  go_wp2_with (first | (refine wpList_load_rowg (by rfl) 33 _ (by rfl) (w.heap.size) (by rfl) 33 (va 256 (iv .u8 (f))) (0, 0) _ (by exact r0) Try.underlying33 (by rfl) (sizeBk.trans (by rw [va_size])) ?_; simp only [Act.put, List.setIfInBounds_toArray, List.set_cons_zero, List.set_cons_succ]) | fail)
  generalize ((w.alloc (.cells (va 256 (iv .u8 f)) 33)).alloc (.cells (tiC 0 rf0) 29)) = W at *
  refine (HX.out _).mono ?_
  rintro e w1 ⟨rfl, hb1⟩
  have q0 := r0.below hb1 r0.lt
  have q1 := r1.below hb1 r1.lt
  have hb2 : Below w.heap.size w w1 := hb.trans (hb1.mono hb.size)
  clear r0 r1 hb hb1 HX
  go_wp2_with fail
  refine (HD.out _).mono ?_
  rintro e w2 ⟨rfl, hb3⟩
  have p0 := q0.below hb3 q0.lt
  have p1 := q1.below hb3 q1.lt
  have hb4 : Below w.heap.size w w2 := hb2.trans (hb3.mono hb2.size)
  have l1 : w.heap.size + 1 < w2.heap.size := p1.lt
  clear q0 q1 hb2 hb3 HD
  have s0 : Blk (w2.alloc (.cells (rfC rf0) 27)) w2.heap.size 27 (rfC rf0) := Blk.new _ _ _
  have t0 : Blk ((w2.alloc (.cells (rfC rf0) 27)).setRow w2.heap.size (rfC R)) w.heap.size 33 (va 256 (iv .u8 f)) := (p0.alloc _).other _ (by omega)
  have t1 : Blk ((w2.alloc (.cells (rfC rf0) 27)).setRow w2.heap.size (rfC R)) (w.heap.size + 1) 29 (tiC 0 rf0) := (p1.alloc _).other _ (by omega)
  have t2 : Blk ((w2.alloc (.cells (rfC rf0) 27)).setRow w2.heap.size (rfC R)) w2.heap.size 27 (rfC R) := s0.set _
  have hb5 : Below w.heap.size w ((w2.alloc (.cells (rfC rf0) 27)).setRow w2.heap.size (rfC R)) := below_setRow (hb4.alloc hb4.size _) (by omega) _
  clear p0 p1 hb4
  go_wp2_with (first | (refine wpList_store_row (by rfl) 27 _ _ (by rfl) (w2.heap.size) (rfC R) (by rfl) (by rfl) 27 (_) (by exact s0) (slSizeRef.trans (by rw [rfC_size])) (by simp only [rfC_size]) (rfC_all _) ?_; simp only [Act.put, List.setIfInBounds_toArray, List.set_cons_zero, List.set_cons_succ]) | fail)
  clear s0
  generalize ((w2.alloc (.cells (rfC rf0) 27)).setRow w2.heap.size (rfC R)) = v at *
  generalize w2.heap.size = g at *
  have hS : Hid (Blk v.drew w.heap.size 33 (va 256 (iv .u8 f)) ∧ Blk v.drew (w.heap.size + 1) 29 (tiC 0 rf0) ∧ Blk v.drew g 27 (rfC R) ∧ Below w.heap.size w v.drew) := ⟨t0.drew, t1.drew, t2.drew, hb5.drew⟩
  clear t0 t1 t2 hb5
  refine wp_region_partsS (fun U => Hid (Blk U w.heap.size 33 (va 256 (iv .u8 f)) ∧ Blk U (w.heap.size + 1) 29 (tiC 0 rf0) ∧ Blk U g 27 (rfC R) ∧ Below w.heap.size w U)) [([1], 0, true), ([], 3, true), ([], 2, false), ([], 4, false)] [] [5] (by kernel_rfl) (by kernel_rfl) hS (partsI_yield ?_)
  simp only [List.cons_append, List.nil_append, List.append_nil, List.filterMap_cons, List.filterMap_nil, List.getElem?_toArray, List.getElem?_cons_zero, List.getElem?_cons_succ]
  go_wp2_with fail
  refine ⟨rfl, _, .agg (va 256 (iv .u8 f)), rfl, kyields_load (by rfl) 33 _ (by rfl) w.heap.size 256 (iv .u8 f) (by rfl) _ 33 (fun W hW => hW.out.1) Try.underlying33 rfl sizeBk, partsI_yield ?_⟩
  simp only [Act.put, List.setIfInBounds_toArray, List.set_cons_zero, List.set_cons_succ]
  simp only [List.cons_append, List.nil_append, List.append_nil, List.filterMap_cons, List.filterMap_nil, List.getElem?_toArray, List.getElem?_cons_zero, List.getElem?_cons_succ]
  go_wp2_with fail
  refine ⟨rfl, _, .agg (rfC R), rfl, kyields_load (by rfl) 27 _ (by rfl) g 33 (rfF R.1 R.2) (by rfl) _ 27 (fun W hW => hW.out.2.2.1) Try.underlying27 rfl slSizeRef, partsI_force ?_⟩
  simp only [Act.put, List.setIfInBounds_toArray, List.set_cons_zero, List.set_cons_succ]
  simp only [List.cons_append, List.nil_append, List.append_nil, List.filterMap_cons, List.filterMap_nil, List.getElem?_toArray, List.getElem?_cons_zero, List.getElem?_cons_succ]
  go_wp2_with fail
  refine (HN.out _).mono ?_
  rintro e y ⟨rfl, hy⟩
  have hS2 : Hid (Blk y w.heap.size 33 (va 256 (iv .u8 f)) ∧ Blk y (w.heap.size + 1) 29 (tiC 0 rf0) ∧ Blk y g 27 (rfC R) ∧ Below w.heap.size w y) := ⟨hS.out.1.below hy hS.out.1.lt, hS.out.2.1.below hy hS.out.2.1.lt, hS.out.2.2.1.below hy hS.out.2.2.1.lt, hS.out.2.2.2.trans (hy.mono hS.out.2.2.2.size)⟩
  clear hy hS HN
  go_wp2_with fail
  refine ⟨rfl, hS2, partsI_force ?_⟩
  simp only [List.cons_append, List.nil_append, List.append_nil, List.filterMap_cons, List.filterMap_nil, List.getElem?_toArray, List.getElem?_cons_zero, List.getElem?_cons_succ]
  refine su_build2 (by rfl) 29 _ _ (by rfl) (.int .i64 (n : Int)) (.agg (rfC R)) (by rfl) (by rfl) (tiC (n : Int) R) (by exact hbt) ?_
  simp only [Act.put, List.setIfInBounds_toArray, List.set_cons_zero, List.set_cons_succ]
  go_wp2_with fail
  refine ⟨rfl, hS2, partsI_last ?_⟩
  simp only [List.cons_append, List.nil_append, List.append_nil, List.filterMap_cons, List.filterMap_nil, List.getElem?_toArray, List.getElem?_cons_zero, List.getElem?_cons_succ]
  have hst := Blk.store (P := Try.prog) hS2.out.2.1 (tiC (n : Int) R) (by simp only [tiC_size]) (fun v hv => Array.all_eq_true'.1 (tiC_all (n : Int) R) v (Array.mem_toList_iff.1 hv))
  have hvs := tiC_size (n : Int) R
  go_wp2_with fail
  refine ⟨rfl, ?_⟩
  go_wp2_with fail
  try simp only [Exit.inBlock, Exit.then]
  refine bodyPost_ret (results_cell1 Try.results42 _ _ (w.heap.size + 1) 29 (tiC (n : Int) R) (0, 0) _ rfl (hS2.out.2.1.set _) Try.underlying29 rfl (sizeTi.trans (by rw [tiC_size]))) rfl ?_
  exact ⟨rfl, below_setRow hS2.out.2.2.2 (Nat.le_succ _) _⟩
set_option maxRecDepth 100000 in
set_option maxHeartbeats 4000000 in
theorem sparts_any (f : Nat → Nat) (hf : ∀ i, f i < 256) (w : World) : Calls Try.prog 31 #[bkV f] w fun e w' => e = .returned (.agg (suC (prB f))) ∧ Below w.heap.size w w' := by
  have hz := zero_sup
  have H64 : Hid (∀ w, Calls Try.prog 40 #[bkV f, .int .i64 16] w fun e w' => e = .returned (.tuple #[.int .u64 ((prB f).c : Int), .int .i64 0]) ∧ Below w.heap.size w w') := take64_fit f hf 16 (by decide)
  have N8 : Hid (∀ w, Calls Try.prog 41 #[bkV f, .int .i64 8] w fun e w' => e = .returned (.int .i64 (prB f).b) ∧ Below w.heap.size w w') := snumber_any f hf 8 (by decide)
  have N28 : Hid (∀ w, Calls Try.prog 41 #[bkV f, .int .i64 28] w fun e w' => e = .returned (.int .i64 (prB f).n) ∧ Below w.heap.size w w') := snumber_any f hf 28 (by decide)
  have N108 : Hid (∀ w, Calls Try.prog 41 #[bkV f, .int .i64 108] w fun e w' => e = .returned (.int .i64 (prB f).u) ∧ Below w.heap.size w w') := snumber_any f hf 108 (by decide)
  have T24 : Hid (∀ w, Calls Try.prog 42 #[bkV f, .int .i64 24, .int .i64 32] w fun e w' => e = .returned (.agg (tiC (prB f).th (prB f).tr)) ∧ Below w.heap.size w w') := slaid_any f hf 24 32 (by decide) (by decide)
  have T68 : Hid (∀ w, Calls Try.prog 42 #[bkV f, .int .i64 68, .int .i64 72] w fun e w' => e = .returned (.agg (tiC (prB f).mh (prB f).mr)) ∧ Below w.heap.size w w') := slaid_any f hf 68 72 (by decide) (by decide)
  have hbs := sbuilt_sup (prB f)
  generalize prB f = X at *
  unfold bkV at *
  have r0 : Blk ((w.alloc (.cells (va 256 (iv .u8 f)) 33)).alloc (.cells (suC su0) 31)) w.heap.size 33 (va 256 (iv .u8 f)) := (Blk.new _ _ _).alloc _
  have r1 : Blk ((w.alloc (.cells (va 256 (iv .u8 f)) 33)).alloc (.cells (suC su0) 31)) (w.heap.size + 1) 31 (suC su0) := Blk.new1 _ _ _ _
  have hb : Below w.heap.size w ((w.alloc (.cells (va 256 (iv .u8 f)) 33)).alloc (.cells (suC su0) 31)) := below_new2 _ _ _
  go_enter Try.func31, Try.ntmps31
  go_wp2_with (first | (refine wpList_load_rowg (by rfl) 33 _ (by rfl) (w.heap.size) (by rfl) 33 (va 256 (iv .u8 (f))) (0, 0) _ (by exact r0) Try.underlying33 (by rfl) (sizeBk.trans (by rw [va_size])) ?_; simp only [Act.put, List.setIfInBounds_toArray, List.set_cons_zero, List.set_cons_succ]) | fail)
  generalize ((w.alloc (.cells (va 256 (iv .u8 f)) 33)).alloc (.cells (suC su0) 31)) = W at *
  refine (H64.out _).mono ?_
  rintro e v ⟨rfl, hb1⟩
  have hS0 : Hid (Blk v.drew w.heap.size 33 (va 256 (iv .u8 f)) ∧ Blk v.drew (w.heap.size + 1) 31 (suC su0) ∧ Below w.heap.size w v.drew) := ⟨(r0.below hb1 r0.lt).drew, (r1.below hb1 r1.lt).drew, (hb.trans (hb1.mono hb.size)).drew⟩
  clear r0 r1 hb hb1 H64
  go_wp2_with fail
  refine wp_region_partsS (fun U => Hid (Blk U w.heap.size 33 (va 256 (iv .u8 f)) ∧ Blk U (w.heap.size + 1) 31 (suC su0) ∧ Below w.heap.size w U)) [([2], 0, true), ([], 3, true), ([], 5, true), ([], 7, true), ([], 9, true), ([], 1, false), ([], 4, false), ([], 6, false), ([], 8, false), ([], 10, false), ([], 11, false)] [] [12] (by kernel_rfl) (by kernel_rfl) hS0 (partsI_yield ?_)
  simp only [List.cons_append, List.nil_append, List.append_nil, List.filterMap_cons, List.filterMap_nil, List.getElem?_toArray, List.getElem?_cons_zero, List.getElem?_cons_succ]
  go_wp2_with fail
  refine ⟨rfl, _, .agg (va 256 (iv .u8 f)), rfl, kyields_load (by rfl) 33 _ (by rfl) w.heap.size 256 (iv .u8 f) (by rfl) _ 33 (fun W hW => hW.out.1) Try.underlying33 rfl sizeBk, partsI_yield ?_⟩
  simp only [Act.put, List.setIfInBounds_toArray, List.set_cons_zero, List.set_cons_succ]
  simp only [List.cons_append, List.nil_append, List.append_nil, List.filterMap_cons, List.filterMap_nil, List.getElem?_toArray, List.getElem?_cons_zero, List.getElem?_cons_succ]
  go_wp2_with fail
  refine ⟨rfl, _, .agg (va 256 (iv .u8 f)), rfl, kyields_load (by rfl) 33 _ (by rfl) w.heap.size 256 (iv .u8 f) (by rfl) _ 33 (fun W hW => hW.out.1) Try.underlying33 rfl sizeBk, partsI_yield ?_⟩
  simp only [Act.put, List.setIfInBounds_toArray, List.set_cons_zero, List.set_cons_succ]
  simp only [List.cons_append, List.nil_append, List.append_nil, List.filterMap_cons, List.filterMap_nil, List.getElem?_toArray, List.getElem?_cons_zero, List.getElem?_cons_succ]
  go_wp2_with fail
  refine ⟨rfl, _, .agg (va 256 (iv .u8 f)), rfl, kyields_load (by rfl) 33 _ (by rfl) w.heap.size 256 (iv .u8 f) (by rfl) _ 33 (fun W hW => hW.out.1) Try.underlying33 rfl sizeBk, partsI_yield ?_⟩
  simp only [Act.put, List.setIfInBounds_toArray, List.set_cons_zero, List.set_cons_succ]
  simp only [List.cons_append, List.nil_append, List.append_nil, List.filterMap_cons, List.filterMap_nil, List.getElem?_toArray, List.getElem?_cons_zero, List.getElem?_cons_succ]
  go_wp2_with fail
  refine ⟨rfl, _, .agg (va 256 (iv .u8 f)), rfl, kyields_load (by rfl) 33 _ (by rfl) w.heap.size 256 (iv .u8 f) (by rfl) _ 33 (fun W hW => hW.out.1) Try.underlying33 rfl sizeBk, partsI_yield ?_⟩
  simp only [Act.put, List.setIfInBounds_toArray, List.set_cons_zero, List.set_cons_succ]
  simp only [List.cons_append, List.nil_append, List.append_nil, List.filterMap_cons, List.filterMap_nil, List.getElem?_toArray, List.getElem?_cons_zero, List.getElem?_cons_succ]
  go_wp2_with fail
  refine ⟨rfl, _, .agg (va 256 (iv .u8 f)), rfl, kyields_load (by rfl) 33 _ (by rfl) w.heap.size 256 (iv .u8 f) (by rfl) _ 33 (fun W hW => hW.out.1) Try.underlying33 rfl sizeBk, partsI_force ?_⟩
  simp only [Act.put, List.setIfInBounds_toArray, List.set_cons_zero, List.set_cons_succ]
  simp only [List.cons_append, List.nil_append, List.append_nil, List.filterMap_cons, List.filterMap_nil, List.getElem?_toArray, List.getElem?_cons_zero, List.getElem?_cons_succ]
  go_wp2_with fail
  refine (N8.out _).mono ?_
  rintro e y0 ⟨rfl, hy0⟩
  have hS1 : Hid (Blk y0 w.heap.size 33 (va 256 (iv .u8 f)) ∧ Blk y0 (w.heap.size + 1) 31 (suC su0) ∧ Below w.heap.size w y0) := ⟨hS0.out.1.below hy0 hS0.out.1.lt, hS0.out.2.1.below hy0 hS0.out.2.1.lt, hS0.out.2.2.trans (hy0.mono hS0.out.2.2.size)⟩
  clear hy0 hS0 N8
  go_wp2_with fail
  refine ⟨rfl, hS1, partsI_force ?_⟩
  simp only [List.cons_append, List.nil_append, List.append_nil, List.filterMap_cons, List.filterMap_nil, List.getElem?_toArray, List.getElem?_cons_zero, List.getElem?_cons_succ]
  go_wp2_with fail
  refine (T24.out _).mono ?_
  rintro e y1 ⟨rfl, hy1⟩
  have hS2 : Hid (Blk y1 w.heap.size 33 (va 256 (iv .u8 f)) ∧ Blk y1 (w.heap.size + 1) 31 (suC su0) ∧ Below w.heap.size w y1) := ⟨hS1.out.1.below hy1 hS1.out.1.lt, hS1.out.2.1.below hy1 hS1.out.2.1.lt, hS1.out.2.2.trans (hy1.mono hS1.out.2.2.size)⟩
  clear hy1 hS1 T24
  go_wp2_with fail
  refine ⟨rfl, hS2, partsI_force ?_⟩
  simp only [List.cons_append, List.nil_append, List.append_nil, List.filterMap_cons, List.filterMap_nil, List.getElem?_toArray, List.getElem?_cons_zero, List.getElem?_cons_succ]
  go_wp2_with fail
  refine (N28.out _).mono ?_
  rintro e y2 ⟨rfl, hy2⟩
  have hS3 : Hid (Blk y2 w.heap.size 33 (va 256 (iv .u8 f)) ∧ Blk y2 (w.heap.size + 1) 31 (suC su0) ∧ Below w.heap.size w y2) := ⟨hS2.out.1.below hy2 hS2.out.1.lt, hS2.out.2.1.below hy2 hS2.out.2.1.lt, hS2.out.2.2.trans (hy2.mono hS2.out.2.2.size)⟩
  clear hy2 hS2 N28
  go_wp2_with fail
  refine ⟨rfl, hS3, partsI_force ?_⟩
  simp only [List.cons_append, List.nil_append, List.append_nil, List.filterMap_cons, List.filterMap_nil, List.getElem?_toArray, List.getElem?_cons_zero, List.getElem?_cons_succ]
  go_wp2_with fail
  refine (T68.out _).mono ?_
  rintro e y3 ⟨rfl, hy3⟩
  have hS4 : Hid (Blk y3 w.heap.size 33 (va 256 (iv .u8 f)) ∧ Blk y3 (w.heap.size + 1) 31 (suC su0) ∧ Below w.heap.size w y3) := ⟨hS3.out.1.below hy3 hS3.out.1.lt, hS3.out.2.1.below hy3 hS3.out.2.1.lt, hS3.out.2.2.trans (hy3.mono hS3.out.2.2.size)⟩
  clear hy3 hS3 T68
  go_wp2_with fail
  refine ⟨rfl, hS4, partsI_force ?_⟩
  simp only [List.cons_append, List.nil_append, List.append_nil, List.filterMap_cons, List.filterMap_nil, List.getElem?_toArray, List.getElem?_cons_zero, List.getElem?_cons_succ]
  go_wp2_with fail
  refine (N108.out _).mono ?_
  rintro e y4 ⟨rfl, hy4⟩
  have hS5 : Hid (Blk y4 w.heap.size 33 (va 256 (iv .u8 f)) ∧ Blk y4 (w.heap.size + 1) 31 (suC su0) ∧ Below w.heap.size w y4) := ⟨hS4.out.1.below hy4 hS4.out.1.lt, hS4.out.2.1.below hy4 hS4.out.2.1.lt, hS4.out.2.2.trans (hy4.mono hS4.out.2.2.size)⟩
  clear hy4 hS4 N108
  go_wp2_with fail
  refine ⟨rfl, hS5, partsI_force ?_⟩
  simp only [List.cons_append, List.nil_append, List.append_nil, List.filterMap_cons, List.filterMap_nil, List.getElem?_toArray, List.getElem?_cons_zero, List.getElem?_cons_succ]
  refine su_build6 (by rfl) 31 _ _ _ _ _ _ (by rfl) _ _ _ _ _ _ (by rfl) (by rfl) (by rfl) (by rfl) (by rfl) (by rfl) (suC X) (by exact hbs) ?_
  simp only [Act.put, List.setIfInBounds_toArray, List.set_cons_zero, List.set_cons_succ]
  go_wp2_with fail
  refine ⟨rfl, hS5, partsI_last ?_⟩
  simp only [List.cons_append, List.nil_append, List.append_nil, List.filterMap_cons, List.filterMap_nil, List.getElem?_toArray, List.getElem?_cons_zero, List.getElem?_cons_succ]
  have hst := Blk.store (P := Try.prog) hS5.out.2.1 (suC X) (by simp only [suC_size]) (fun v hv => Array.all_eq_true'.1 (suC_all X) v (Array.mem_toList_iff.1 hv))
  have hvs := suC_size X
  go_wp2_with fail
  refine ⟨rfl, ?_⟩
  go_wp2_with fail
  try simp only [Exit.inBlock, Exit.then]
  refine bodyPost_ret (results_cell1 Try.results31 _ _ (w.heap.size + 1) 31 (suC X) (0, 0) _ rfl (hS5.out.2.1.set _) Try.underlying31 rfl (sizeSup.trans (by rw [suC_size]))) rfl ?_
  exact ⟨rfl, below_setRow hS5.out.2.2 (Nat.le_succ _) _⟩
end Go.Proofs.Ytalnfphlhcojcaa

namespace Go.Proofs.Ytalnfphlhcojcaa
open Go Go.RowKit
set_option linter.unusedSimpArgs false
set_option linter.unusedVariables false
set_option maxRecDepth 20000
set_option maxHeartbeats 4000000 in
theorem rmapLeaves_any (b : Int) (w : World) : Calls Try.prog 15 #[.int .i64 b] w fun e w' => e = .returned (.tuple #[.int .i64 (if rBl b = true then (b + 1023) / 1024 else 0), .bool (rBl b)]) ∧ w' = w := by
  by_cases h1 : b < 16
  · rw [show rBl b = false by unfold rBl; rw [decide_eq_false (show ¬ 16 ≤ b by omega)]; rfl]
    go_enter Try.func15, Try.ntmps15
    go_wp2_with fail
    go_ret2
    exact ⟨rfl, rfl⟩
  · by_cases h2 : 8192 < b
    · rw [show rBl b = false by unfold rBl; rw [decide_eq_false (show ¬ b ≤ 8192 by omega), Bool.and_false]]
      go_enter Try.func15, Try.ntmps15
      go_wp2_with fail
      go_ret2
      exact ⟨rfl, rfl⟩
    · rw [(rBl_iff b).2 ⟨by omega, by omega⟩]
      have HE : Hid ((b + 1023).tdiv 1024 = (b + 1023) / 1024) := Int.tdiv_eq_ediv_of_nonneg (by omega)
      go_enter Try.func15, Try.ntmps15
      go_wp2_with fail
      go_ret2
      refine ⟨?_, rfl⟩
      first
      | (rw [← HE.out]; simp; done)
      | (have := HE.out; simp at this ⊢; omega)
set_option maxRecDepth 100000 in
set_option maxHeartbeats 4000000 in
theorem rscheck_any (x : Sup) (hx : SuW x) (w : World) : Calls Try.prog 24 #[.agg (suC x)] w fun e w' => e = .returned (.bool (sck x)) ∧ Below w.heap.size w w' := by
  have r0 : Blk (w.alloc (.cells (suC x) 45)) w.heap.size 45 (suC x) := Blk.new _ _ _
  have HB : Hid (Below w.heap.size w (w.alloc (.cells (suC x) 45))) := below_new1 _ _
  have c0 := sup_c0 r0
  have c2 := sup_c2 r0
  have c3 := sup_c3 r0
  have c36 := sup_c36 r0
  have c37 := sup_c37 r0
  have c38 := sup_c38 r0
  have c71 := sup_c71 r0
  have HM : Hid (∀ w : World, Calls Try.prog 15 #[.int .i64 x.b] w fun e w' => e = .returned (.tuple #[.int .i64 (if rBl x.b = true then (x.b + 1023) / 1024 else 0), .bool (rBl x.b)]) ∧ w' = w) := rmapLeaves_any x.b
  have HO : Hid (sck x = ((rBl x.b && (decide (3 ≤ x.u) && decide (x.u < x.b))) && (((decide (1 ≤ x.n) && decide (x.n ≤ 4096)) && (decide (x.th = hL 4 x.n) && decide (x.mh = hL 1024 x.b))) && (onD x.tr.1 x.b && (onD x.mr.1 x.b && decide (x.tr.1 ≠ x.mr.1)))))) := rfl
  have H4 : Hid (1 ≤ x.n → x.n ≤ 4096 → ∀ w : World, Calls Try.prog 16 #[.int .i64 ((x.n + 3).tdiv 4)] w fun e w' => e = .returned (.int .i64 (hL 4 x.n)) ∧ w' = w) := fun h1 h2 => by
    rw [Int.tdiv_eq_ediv_of_nonneg (by omega), ← hL_4 x.n (by omega)]
    exact rleast _ (by omega) (by omega)
  have HK : Hid (rBl x.b = true → ∀ w : World, Calls Try.prog 16 #[.int .i64 ((x.b + 1023) / 1024)] w fun e w' => e = .returned (.int .i64 (hL 1024 x.b)) ∧ w' = w) := fun h => by
    have := (rBl_iff x.b).1 h
    rw [← hL_1k x.b (by omega)]
    exact rleast _ (by omega) (by omega)
  have hb := hx.b
  have HRB : Hid (rBl x.b = true → 16 ≤ x.b ∧ x.b ≤ 8192) := (rBl_iff x.b).1
  have ha1 := hx.ta
  have ha2 := hx.ma
  generalize sck x = B at *
  clear r0 hx
  unfold onD at HO
  generalize rBl x.b = R at *
  generalize hL 4 x.n = H1 at *
  generalize hL 1024 x.b = H2 at *
  generalize x.b = b at *
  generalize x.n = n at *
  generalize x.u = u at *
  generalize x.th = th at *
  generalize x.mh = mh at *
  generalize x.tr.1 = a1 at *
  generalize x.mr.1 = a2 at *
  go_enter Try.func24, Try.ntmps24
  go_wp2_with fail
  generalize (w.alloc (.cells (suC x) 45)) = w0 at *
  refine (HM.out _).mono ?_
  rintro e w2 ⟨rfl, rfl⟩
  clear HM
  cases R
  · go_wp2_with fail
    go_ret
    exact ⟨by rw [HO.out]; simp, HB.out⟩
  · have HK' : Hid (∀ w : World, Calls Try.prog 16 #[.int .i64 ((b + 1023) / 1024)] w fun e w' => e = .returned (.int .i64 H2) ∧ w' = w) := HK.out rfl
    have hb16 := HRB.out rfl
    clear HK HRB hb
    rw [if_pos rfl]
    generalize (b + 1023) / 1024 = L at *
    obtain ⟨hb1, hb2⟩ := hb16
    by_cases h1 : n < 1
    · go_wp2_with fail
      go_ret
      exact ⟨by rw [HO.out, decide_eq_false (show ¬ 1 ≤ n by omega)]; simp, HB.out⟩
    · by_cases h2 : 4096 < n
      · go_wp2_with fail
        go_ret
        exact ⟨by rw [HO.out, decide_eq_false (show ¬ n ≤ 4096 by omega)]; simp, HB.out⟩
      · have h1' : 1 ≤ n := by omega
        have h2' : n ≤ 4096 := by omega
        have H4' : Hid (∀ w : World, Calls Try.prog 16 #[.int .i64 ((n + 3).tdiv 4)] w fun e w' => e = .returned (.int .i64 H1) ∧ w' = w) := H4.out h1' h2'
        clear H4
        have j1 : IntKind.i64.wrap (n + 3) = n + 3 := by rw [IntKind.wrap_i64]; omega
        have j2 : IntKind.i64.wrap ((n + 3).tdiv 4) = (n + 3).tdiv 4 := by rw [Int.tdiv_eq_ediv_of_nonneg (by omega), IntKind.wrap_i64]; omega
        generalize hM : (n + 3).tdiv 4 = M at *
        by_cases h3 : u < 3
        · go_wp2_with fail
          go_ret
          exact ⟨by rw [HO.out, decide_eq_false (show ¬ 3 ≤ u by omega)]; simp, HB.out⟩
        · by_cases h4 : b - 1 < u
          · go_wp2_with fail
            go_ret
            exact ⟨by rw [HO.out, decide_eq_false (show ¬ u < b by omega)]; simp, HB.out⟩
          · have h3' : 3 ≤ u := by omega
            have h4' : u < b := by omega
            by_cases h5 : th = H1
            · subst h5
              by_cases h6 : mh = H2
              · subst h6
                go_upto_region 4 with fail
                go_quiet (first | (go_at_call_of 16 (Value.int IntKind.i64 M); refine Calls.quiet_of_same (H4'.out _)) | (go_at_call_of 16 (Value.int IntKind.i64 L); refine Calls.quiet_of_same (HK'.out _)))
                generalize hw9 : w2.drewN _ = w9
                have HB9 : Hid (Below w.heap.size w w9) := by rw [← hw9]; exact su_dN HB.out _
                have c0 : w9.cell? ⟨w.heap.size, 0, none⟩ = some (.int .i64 b) := by rw [← hw9]; exact c0
                have c3 : w9.cell? ⟨w.heap.size, 3, none⟩ = some (.int .u32 ((a1 : Nat) : Int)) := by rw [← hw9]; exact c3
                have c38 : w9.cell? ⟨w.heap.size, 38, none⟩ = some (.int .u32 ((a2 : Nat) : Int)) := by rw [← hw9]; exact c38
                clear hw9 HB
                go_wp2_with fail
                go_quiet (fail)
                have HB : Hid (Below w.heap.size w (w9.drewN nq)) := su_dN HB9.out nq
                have k1 : IntKind.i64.wrap (a1 : Int) = (a1 : Int) := by rw [IntKind.wrap_i64]; omega
                have k2 : IntKind.i64.wrap (a2 : Int) = (a2 : Int) := by rw [IntKind.wrap_i64]; omega
                by_cases g1 : a1 = 0
                · subst g1
                  go_wp2_with fail
                  go_ret
                  exact ⟨by rw [HO.out]; simp, HB.out⟩
                · have g1' : (0 : Int) < (a1 : Int) := by omega
                  by_cases g2 : a2 = 0
                  · subst g2
                    go_wp2_with fail
                    go_ret
                    exact ⟨by rw [HO.out]; simp, HB.out⟩
                  · have g2' : (0 : Int) < (a2 : Int) := by omega
                    by_cases g3 : a1 = a2
                    · subst g3
                      go_wp2_with fail
                      go_ret
                      exact ⟨by rw [HO.out]; simp, HB.out⟩
                    · have g3' : ¬ (a1 : Int) = (a2 : Int) := by omega
                      by_cases g4 : (a1 : Int) < b
                      · by_cases g5 : (a2 : Int) < b
                        · go_wp2_with fail
                          go_ret
                          exact ⟨by rw [HO.out]; first | (simp [g1, g2, g3, g3', g4, g5, h1', h2', h3', h4']; done) | (simp [g1, g2, g3, g3', g4, g5, h1', h2', h3', h4']; omega) | (simp [g1, g2, g3, g3', g4, g5, h1', h2', h3', h4']; intros; omega), HB.out⟩
                        · go_wp2_with fail
                          go_ret
                          exact ⟨by rw [HO.out]; first | (simp [g5]; done) | (simp [g5]; omega) | (simp [g5]; intros; omega), HB.out⟩
                      · go_wp2_with fail
                        go_ret
                        exact ⟨by rw [HO.out]; first | (simp [g4]; done) | (simp [g4]; omega) | (simp [g4]; intros; omega), HB.out⟩
              · go_upto_region 4 with fail
                go_quiet (first | (go_at_call_of 16 (Value.int IntKind.i64 M); refine Calls.quiet_of_same (H4'.out _)) | (go_at_call_of 16 (Value.int IntKind.i64 L); refine Calls.quiet_of_same (HK'.out _)))
                go_wp2_with fail
                go_ret
                exact ⟨by rw [HO.out]; simp [h6], su_dN HB.out _⟩
            · go_upto_region 4 with fail
              go_quiet (first | (go_at_call_of 16 (Value.int IntKind.i64 M); refine Calls.quiet_of_same (H4'.out _)) | (go_at_call_of 16 (Value.int IntKind.i64 L); refine Calls.quiet_of_same (HK'.out _)))
              go_wp2_with fail
              go_ret
              exact ⟨by rw [HO.out]; simp [h5], su_dN HB.out _⟩
theorem sbuilt_rrf (r : Rf) : Try.prog.built 41 [(0, .int .u32 ((r.1 : Nat) : Int)), (1, .agg (va 32 (iv .u8 (dF r.2))))] = some (rfC r) := by kernel_rfl
theorem sbuilt_rtree (h : Int) (r : Rf) : Try.prog.built 43 [(0, .int .i64 h), (1, .agg (rfC r))] = some (tiC h r) := by kernel_rfl
theorem sbuilt_rsup (x : Sup) : Try.prog.built 45 [(0, .int .i64 x.b), (1, .int .u64 ((x.c : Nat) : Int)), (2, .agg (tiC x.th x.tr)), (3, .int .i64 x.n), (4, .agg (tiC x.mh x.mr)), (5, .int .i64 x.u)] = some (suC x) := by kernel_rfl
theorem sizeSm20 : (Try.prog.info? 25).map (·.size) = some 32 := by kernel_rfl
theorem ti_sum (h : Int) (r : Rf) : (tiC h r).extract 2 (2 + 32) = va 32 (iv .u8 (dF r.2)) := by
  unfold tiC
  rw [va_extract 34 2 32 _ (by decide)]
  refine va_congr fun i hi => ?_
  unfold tiF rfF iv
  rw [if_neg (by omega), if_neg (by omega), show 2 + i - 1 - 1 = i by omega]
set_option maxRecDepth 100000 in
set_option maxHeartbeats 4000000 in
theorem tree20_any (h : Int) (r : Rf) (w : World) : Calls Try.prog 27 #[.agg (tiC h r)] w fun e w' => e = .returned (.agg (tiC h r)) ∧ Below w.heap.size w w' := by
  have hz := zero_rti
  have r0 : Blk ((w.alloc (.cells (tiC h r) 29)).alloc (.cells (tiC 0 rf0) 43)) w.heap.size 29 (tiC h r) := (Blk.new _ _ _).alloc _
  have r1 : Blk ((w.alloc (.cells (tiC h r) 29)).alloc (.cells (tiC 0 rf0) 43)) (w.heap.size + 1) 43 (tiC 0 rf0) := Blk.new1 _ _ _ _
  have HB : Hid (Below w.heap.size w ((w.alloc (.cells (tiC h r) 29)).alloc (.cells (tiC 0 rf0) 43))) := below_new2 _ _ _
  have c0 : ((w.alloc (.cells (tiC h r) 29)).alloc (.cells (tiC 0 rf0) 43)).cell? ⟨w.heap.size, 0, none⟩ = some (.int .i64 h) := by rw [r0.cell]; exact va_at (tiF h r) (by decide)
  have c1 : ((w.alloc (.cells (tiC h r) 29)).alloc (.cells (tiC 0 rf0) 43)).cell? ⟨w.heap.size, 1, none⟩ = some (.int .u32 ((r.1 : Nat) : Int)) := by rw [r0.cell]; exact va_at (tiF h r) (by decide)
  have q0 : ((w.alloc (.cells (tiC h r) 29)).alloc (.cells (tiC 0 rf0) 43)).rangeAt w.heap.size 2 ((List.range 32).map (iv .u8 (dF r.2))) := by
    have h := World.rangeAt_of_block (b := w.heap.size) r0 2 32
    rw [ti_sum] at h
    rwa [va_toList] at h
  have hb1 := sbuilt_rrf r
  have hb2 := sbuilt_rtree h r
  go_enter Try.func27, Try.ntmps27
  go_wp2_with (first
    | (refine wpList_load_blk (by rfl) 25 _ (by rfl) (w.heap.size) (2) 32 (iv .u8 (dF r.2)) (by rfl) _ (by exact q0) Try.underlying25 rfl sizeSm20 ?_; simp only [Act.put, List.setIfInBounds_toArray, List.set_cons_zero, List.set_cons_succ])
    | (refine su_build2 (by rfl) 41 _ _ (by rfl) (.int .u32 ((r.1 : Nat) : Int)) (.agg (va 32 (iv .u8 (dF r.2)))) (by rfl) (by rfl) (rfC r) hb1 ?_; simp only [Act.put, List.setIfInBounds_toArray, List.set_cons_zero, List.set_cons_succ])
    | (refine su_build2 (by rfl) 43 _ _ (by rfl) (.int .i64 h) (.agg (rfC r)) (by rfl) (by rfl) (tiC h r) hb2 ?_; simp only [Act.put, List.setIfInBounds_toArray, List.set_cons_zero, List.set_cons_succ])
    | (refine wpList_store_row (by rfl) 43 _ _ (by rfl) (w.heap.size + 1) (tiC h r) (by rfl) (by rfl) 43 (_) (by exact r1) (sizeRTr.trans (by rw [tiC_size])) (by simp only [tiC_size]) (tiC_all _ _) ?_; simp only [Act.put, List.setIfInBounds_toArray, List.set_cons_zero, List.set_cons_succ])
    | fail)
  try simp only [Exit.inBlock, Exit.then]
  refine bodyPost_ret (results_cell1 Try.results27 _ _ (w.heap.size + 1) 43 (tiC h r) (0, 0) _ rfl (r1.set _) Try.underlying43 rfl (sizeRTr.trans (by rw [tiC_size]))) rfl ?_
  exact ⟨rfl, below_setRow HB.out (by omega) _⟩
theorem su_rT {w : World} {g : Nat} {x : Sup} (h : Blk w g 31 (suC x)) : w.rangeAt g 2 ((List.range 34).map (tiF x.th x.tr)) := by
  have q := World.rangeAt_of_block (b := g) h 2 34
  rw [su_table] at q
  unfold tiC at q
  rwa [va_toList] at q
theorem su_rM {w : World} {g : Nat} {x : Sup} (h : Blk w g 31 (suC x)) : w.rangeAt g 37 ((List.range 34).map (tiF x.mh x.mr)) := by
  have q := World.rangeAt_of_block (b := g) h 37 34
  rw [su_map] at q
  unfold tiC at q
  rwa [va_toList] at q
set_option maxRecDepth 100000 in
set_option maxHeartbeats 4000000 in
theorem given20_any (x : Sup) (w : World) : Calls Try.prog 9 #[.agg (suC x)] w fun e w' => e = .returned (.agg (suC x)) ∧ Below w.heap.size w w' := by
  have hz := zero_rsup
  have T1 : Hid (∀ w, Calls Try.prog 27 #[.agg (tiC x.th x.tr)] w fun e w' => e = .returned (.agg (tiC x.th x.tr)) ∧ Below w.heap.size w w') := tree20_any _ _
  have T2 : Hid (∀ w, Calls Try.prog 27 #[.agg (tiC x.mh x.mr)] w fun e w' => e = .returned (.agg (tiC x.mh x.mr)) ∧ Below w.heap.size w w') := tree20_any _ _
  have hbs := sbuilt_rsup x
  have hS : Hid (Blk ((w.alloc (.cells (suC x) 31)).alloc (.cells (suC su0) 45)) w.heap.size 31 (suC x) ∧ Blk ((w.alloc (.cells (suC x) 31)).alloc (.cells (suC su0) 45)) (w.heap.size + 1) 45 (suC su0) ∧ Below w.heap.size w ((w.alloc (.cells (suC x) 31)).alloc (.cells (suC su0) 45))) := ⟨(Blk.new _ _ _).alloc _, Blk.new1 _ _ _ _, below_new2 _ _ _⟩
  go_enter Try.func9, Try.ntmps9
  go_wp2_with fail
  generalize ((w.alloc (.cells (suC x) 31)).alloc (.cells (suC su0) 45)) = v at *
  have hS0 : Hid (Blk v.drew w.heap.size 31 (suC x) ∧ Blk v.drew (w.heap.size + 1) 45 (suC su0) ∧ Below w.heap.size w v.drew) := ⟨hS.out.1.drew, hS.out.2.1.drew, hS.out.2.2.drew⟩
  clear hS
  refine wp_region_partsS (fun U => Hid (Blk U w.heap.size 31 (suC x) ∧ Blk U (w.heap.size + 1) 45 (suC su0) ∧ Below w.heap.size w U)) [([], 0, true), ([], 1, true), ([], 2, true), ([], 3, true), ([], 4, true), ([], 5, true), ([], 7, true), ([], 8, true), ([], 9, true), ([], 10, true), ([], 12, true), ([], 13, true), ([], 6, false), ([], 11, false), ([], 14, false)] [] [15] (by kernel_rfl) (by kernel_rfl) hS0 (partsI_yield ?_)
  simp only [List.cons_append, List.nil_append, List.append_nil, List.filterMap_cons, List.filterMap_nil, List.getElem?_toArray, List.getElem?_cons_zero, List.getElem?_cons_succ]
  go_wp2_with fail
  refine ⟨rfl, _, .pointer (some ⟨w.heap.size, 0, none⟩), rfl, Or.inl ⟨by rfl, fun W hW => by go_simp⟩, partsI_yield ?_⟩
  simp only [Act.put, List.setIfInBounds_toArray, List.set_cons_zero, List.set_cons_succ]
  simp only [List.cons_append, List.nil_append, List.append_nil, List.filterMap_cons, List.filterMap_nil, List.getElem?_toArray, List.getElem?_cons_zero, List.getElem?_cons_succ]
  go_wp2_with fail
  refine ⟨rfl, _, .int .i64 x.b, rfl, Or.inl ⟨by rfl, fun W hW => by have hc := sup_c0 hW.out.1; go_simp⟩, partsI_yield ?_⟩
  simp only [Act.put, List.setIfInBounds_toArray, List.set_cons_zero, List.set_cons_succ]
  simp only [List.cons_append, List.nil_append, List.append_nil, List.filterMap_cons, List.filterMap_nil, List.getElem?_toArray, List.getElem?_cons_zero, List.getElem?_cons_succ]
  go_wp2_with fail
  refine ⟨rfl, _, .pointer (some ⟨w.heap.size, 1, none⟩), rfl, Or.inl ⟨by rfl, fun W hW => by go_simp⟩, partsI_yield ?_⟩
  simp only [Act.put, List.setIfInBounds_toArray, List.set_cons_zero, List.set_cons_succ]
  simp only [List.cons_append, List.nil_append, List.append_nil, List.filterMap_cons, List.filterMap_nil, List.getElem?_toArray, List.getElem?_cons_zero, List.getElem?_cons_succ]
  go_wp2_with fail
  refine ⟨rfl, _, .int .u64 ((x.c : Nat) : Int), rfl, Or.inl ⟨by rfl, fun W hW => by have hc := sup_c1 hW.out.1; go_simp⟩, partsI_yield ?_⟩
  simp only [Act.put, List.setIfInBounds_toArray, List.set_cons_zero, List.set_cons_succ]
  simp only [List.cons_append, List.nil_append, List.append_nil, List.filterMap_cons, List.filterMap_nil, List.getElem?_toArray, List.getElem?_cons_zero, List.getElem?_cons_succ]
  go_wp2_with fail
  refine ⟨rfl, _, .pointer (some ⟨w.heap.size, 2, none⟩), rfl, Or.inl ⟨by rfl, fun W hW => by go_simp⟩, partsI_yield ?_⟩
  simp only [Act.put, List.setIfInBounds_toArray, List.set_cons_zero, List.set_cons_succ]
  simp only [List.cons_append, List.nil_append, List.append_nil, List.filterMap_cons, List.filterMap_nil, List.getElem?_toArray, List.getElem?_cons_zero, List.getElem?_cons_succ]
  go_wp2_with fail
  refine ⟨rfl, _, .agg (tiC x.th x.tr), rfl, yieldsIf_load_mid (by rfl) 29 _ (by rfl) w.heap.size 2 (by rfl) _ _ (fun W hW => su_rT hW.out.1) Try.underlying29 rfl (sizeTi.trans (by simp)), partsI_yield ?_⟩
  simp only [Act.put, List.setIfInBounds_toArray, List.set_cons_zero, List.set_cons_succ]
  simp only [List.cons_append, List.nil_append, List.append_nil, List.filterMap_cons, List.filterMap_nil, List.getElem?_toArray, List.getElem?_cons_zero, List.getElem?_cons_succ]
  go_wp2_with fail
  refine ⟨rfl, _, .pointer (some ⟨w.heap.size, 36, none⟩), rfl, Or.inl ⟨by rfl, fun W hW => by go_simp⟩, partsI_yield ?_⟩
  simp only [Act.put, List.setIfInBounds_toArray, List.set_cons_zero, List.set_cons_succ]
  simp only [List.cons_append, List.nil_append, List.append_nil, List.filterMap_cons, List.filterMap_nil, List.getElem?_toArray, List.getElem?_cons_zero, List.getElem?_cons_succ]
  go_wp2_with fail
  refine ⟨rfl, _, .int .i64 x.n, rfl, Or.inl ⟨by rfl, fun W hW => by have hc := sup_c36 hW.out.1; go_simp⟩, partsI_yield ?_⟩
  simp only [Act.put, List.setIfInBounds_toArray, List.set_cons_zero, List.set_cons_succ]
  simp only [List.cons_append, List.nil_append, List.append_nil, List.filterMap_cons, List.filterMap_nil, List.getElem?_toArray, List.getElem?_cons_zero, List.getElem?_cons_succ]
  go_wp2_with fail
  refine ⟨rfl, _, .pointer (some ⟨w.heap.size, 37, none⟩), rfl, Or.inl ⟨by rfl, fun W hW => by go_simp⟩, partsI_yield ?_⟩
  simp only [Act.put, List.setIfInBounds_toArray, List.set_cons_zero, List.set_cons_succ]
  simp only [List.cons_append, List.nil_append, List.append_nil, List.filterMap_cons, List.filterMap_nil, List.getElem?_toArray, List.getElem?_cons_zero, List.getElem?_cons_succ]
  go_wp2_with fail
  refine ⟨rfl, _, .agg (tiC x.mh x.mr), rfl, yieldsIf_load_mid (by rfl) 29 _ (by rfl) w.heap.size 37 (by rfl) _ _ (fun W hW => su_rM hW.out.1) Try.underlying29 rfl (sizeTi.trans (by simp)), partsI_yield ?_⟩
  simp only [Act.put, List.setIfInBounds_toArray, List.set_cons_zero, List.set_cons_succ]
  simp only [List.cons_append, List.nil_append, List.append_nil, List.filterMap_cons, List.filterMap_nil, List.getElem?_toArray, List.getElem?_cons_zero, List.getElem?_cons_succ]
  go_wp2_with fail
  refine ⟨rfl, _, .pointer (some ⟨w.heap.size, 71, none⟩), rfl, Or.inl ⟨by rfl, fun W hW => by go_simp⟩, partsI_yield ?_⟩
  simp only [Act.put, List.setIfInBounds_toArray, List.set_cons_zero, List.set_cons_succ]
  simp only [List.cons_append, List.nil_append, List.append_nil, List.filterMap_cons, List.filterMap_nil, List.getElem?_toArray, List.getElem?_cons_zero, List.getElem?_cons_succ]
  go_wp2_with fail
  refine ⟨rfl, _, .int .i64 x.u, rfl, Or.inl ⟨by rfl, fun W hW => by have hc := sup_c71 hW.out.1; go_simp⟩, partsI_force ?_⟩
  simp only [Act.put, List.setIfInBounds_toArray, List.set_cons_zero, List.set_cons_succ]
  simp only [List.cons_append, List.nil_append, List.append_nil, List.filterMap_cons, List.filterMap_nil, List.getElem?_toArray, List.getElem?_cons_zero, List.getElem?_cons_succ]
  go_wp2_with fail
  refine (T1.out _).mono ?_
  rintro e y0 ⟨rfl, hy0⟩
  have hS1 : Hid (Blk y0 w.heap.size 31 (suC x) ∧ Blk y0 (w.heap.size + 1) 45 (suC su0) ∧ Below w.heap.size w y0) := ⟨hS0.out.1.below hy0 hS0.out.1.lt, hS0.out.2.1.below hy0 hS0.out.2.1.lt, hS0.out.2.2.trans (hy0.mono hS0.out.2.2.size)⟩
  clear hy0 hS0 T1
  go_wp2_with fail
  refine ⟨rfl, hS1, partsI_force ?_⟩
  simp only [List.cons_append, List.nil_append, List.append_nil, List.filterMap_cons, List.filterMap_nil, List.getElem?_toArray, List.getElem?_cons_zero, List.getElem?_cons_succ]
  go_wp2_with fail
  refine (T2.out _).mono ?_
  rintro e y1 ⟨rfl, hy1⟩
  have hS2 : Hid (Blk y1 w.heap.size 31 (suC x) ∧ Blk y1 (w.heap.size + 1) 45 (suC su0) ∧ Below w.heap.size w y1) := ⟨hS1.out.1.below hy1 hS1.out.1.lt, hS1.out.2.1.below hy1 hS1.out.2.1.lt, hS1.out.2.2.trans (hy1.mono hS1.out.2.2.size)⟩
  clear hy1 hS1 T2
  go_wp2_with fail
  refine ⟨rfl, hS2, partsI_force ?_⟩
  simp only [List.cons_append, List.nil_append, List.append_nil, List.filterMap_cons, List.filterMap_nil, List.getElem?_toArray, List.getElem?_cons_zero, List.getElem?_cons_succ]
  refine su_build6 (by rfl) 45 _ _ _ _ _ _ (by rfl) _ _ _ _ _ _ (by rfl) (by rfl) (by rfl) (by rfl) (by rfl) (by rfl) (suC x) (by exact hbs) ?_
  simp only [Act.put, List.setIfInBounds_toArray, List.set_cons_zero, List.set_cons_succ]
  go_wp2_with fail
  refine ⟨rfl, hS2, partsI_last ?_⟩
  simp only [List.cons_append, List.nil_append, List.append_nil, List.filterMap_cons, List.filterMap_nil, List.getElem?_toArray, List.getElem?_cons_zero, List.getElem?_cons_succ]
  have hst := Blk.store (P := Try.prog) hS2.out.2.1 (suC x) (by simp only [suC_size]) (fun v hv => Array.all_eq_true'.1 (suC_all x) v (Array.mem_toList_iff.1 hv))
  have hvs := suC_size x
  go_wp2_with fail
  refine ⟨rfl, ?_⟩
  go_wp2_with fail
  try simp only [Exit.inBlock, Exit.then]
  refine bodyPost_ret (results_cell1 Try.results9 _ _ (w.heap.size + 1) 45 (suC x) (0, 0) _ rfl (hS2.out.2.1.set _) Try.underlying45 rfl (sizeRSup.trans (by rw [suC_size]))) rfl ?_
  exact ⟨rfl, below_setRow hS2.out.2.2 (Nat.le_succ _) _⟩
end Go.Proofs.Ytalnfphlhcojcaa
