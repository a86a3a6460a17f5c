/- What the bytes of a block say as a root; the program's Decode. -/
import Derived.Test.YtalnfphlhcojcaaHSuEnc
import Derived.Test.YtalnfphlhcojcaaHNdRef
import Derived.Handy
import Derived.BigQuiet
import Derived.Deep.QuietTactic

namespace Go.Proofs.Ytalnfphlhcojcaa
open Go Go.RowKit
set_option linter.unusedSimpArgs false
set_option linter.unusedVariables false
set_option maxRecDepth 20000
/-- a reference, or none where it is not right -/
def rtR (r : Rf) : Rf := if rOk r then r else rf0
/-- the root that bytes say -/
def prR (f : Nat → Nat) : Sup := ⟨(le4f f 8 : Int), le8f f 16, (le4f f 24 : Int), decR (strN f 256) 32, (le4f f 28 : Int), (le4f f 68 : Int), decR (strN f 256) 72, (le4f f 108 : Int)⟩
/-- as the program takes it -/
def prB (f : Nat → Nat) : Sup := ⟨(le4f f 8 : Int), le8f f 16, (le4f f 24 : Int), rtR (decR (strN f 256) 32), (le4f f 28 : Int), (le4f f 68 : Int), rtR (decR (strN f 256) 72), (le4f f 108 : Int)⟩
theorem sle4_lt (f : Nat → Nat) (hf : ∀ i, f i < 256) (o : Nat) : le4f f o < 4294967296 := by
  have := hf o; have := hf (o + 1); have := hf (o + 2); have := hf (o + 3)
  unfold le4f le4; omega
theorem sle8_lt (f : Nat → Nat) (hf : ∀ i, f i < 256) (o : Nat) : le8f f o < 18446744073709551616 := by
  have := hf o; have := hf (o + 1); have := hf (o + 2); have := hf (o + 3); have := hf (o + 4); have := hf (o + 5); have := hf (o + 6); have := hf (o + 7)
  unfold le8f le8; omega
theorem decR_lt (s : ByteArray) (a : Nat) : (decR s a).1 < 4294967296 := at4_lt s a
theorem rtR_lt (r : Rf) (h : r.1 < 4294967296) : (rtR r).1 < 4294967296 := by
  unfold rtR
  split
  · exact h
  · decide
theorem rtR_ok (r : Rf) (h : okD r.2) : okD (rtR r).2 := by
  unfold rtR
  split
  · exact h
  · exact okD_zero
theorem prR_w (f : Nat → Nat) (hf : ∀ i, f i < 256) : SuW (prR f) := by
  have h8 := sle4_lt f hf 8; have h24 := sle4_lt f hf 24; have h28 := sle4_lt f hf 28; have h68 := sle4_lt f hf 68; have h108 := sle4_lt f hf 108
  exact ⟨⟨by show _ ≤ ((le4f f 8 : Nat) : Int); omega, by show ((le4f f 8 : Nat) : Int) ≤ _; omega⟩, sle8_lt f hf 16, ⟨by show _ ≤ ((le4f f 24 : Nat) : Int); omega, by show ((le4f f 24 : Nat) : Int) ≤ _; omega⟩, decR_lt _ _, decR_ok _ _,
    ⟨by show _ ≤ ((le4f f 28 : Nat) : Int); omega, by show ((le4f f 28 : Nat) : Int) ≤ _; omega⟩, ⟨by show _ ≤ ((le4f f 68 : Nat) : Int); omega, by show ((le4f f 68 : Nat) : Int) ≤ _; omega⟩, decR_lt _ _, decR_ok _ _, ⟨by show _ ≤ ((le4f f 108 : Nat) : Int); omega, by show ((le4f f 108 : Nat) : Int) ≤ _; omega⟩⟩
theorem prB_w (f : Nat → Nat) (hf : ∀ i, f i < 256) : SuW (prB f) := by
  have h := prR_w f hf
  exact ⟨h.b, h.c, h.th, rtR_lt _ h.ta, rtR_ok _ h.td, h.n, h.mh, rtR_lt _ h.ma, rtR_ok _ h.md, h.u⟩
theorem rtR_at (r : Rf) : (rtR r).1 = r.1 := by
  unfold rtR
  by_cases h : rOk r = true
  · rw [if_pos h]
  · rw [if_neg h]
    unfold rOk at h
    simp only [Bool.or_eq_true, decide_eq_true_eq, not_or, Decidable.not_not] at h
    exact h.2.symm
theorem rtR_eq (r : Rf) (h : r.1 ≠ 0) : rtR r = r := by
  unfold rtR
  rw [if_pos]
  unfold rOk
  simp [h]
theorem sck_like (x y : Sup) (h1 : x.b = y.b) (h2 : x.u = y.u) (h3 : x.n = y.n) (h4 : x.th = y.th) (h5 : x.mh = y.mh) (h6 : x.tr.1 = y.tr.1) (h7 : x.mr.1 = y.mr.1) : sck x = sck y := by
  unfold sck sDisk sHgt sPl
  rw [h1, h2, h3, h4, h5, h6, h7]
theorem prB_sck (f : Nat → Nat) : sck (prB f) = sck (prR f) := sck_like _ _ rfl rfl rfl rfl rfl (rtR_at _) (rtR_at _)
theorem prB_eq (f : Nat → Nat) (h : sck (prR f) = true) : prB f = prR f := by
  have k := sck_all _ h
  have e1 : rtR (decR (strN f 256) 32) = decR (strN f 256) 32 := rtR_eq _ k.2.2.2.2.2.2.1.1
  have e2 : rtR (decR (strN f 256) 72) = decR (strN f 256) 72 := rtR_eq _ k.2.2.2.2.2.2.2.1.1
  unfold prB prR
  rw [e1, e2]
/-- is it a root? what Decode answers -/
def sdOk (f : Nat → Nat) : Bool := sck (prR f) && decide (bkSame (suB (prR f)) f)
def sdV (f : Nat → Nat) : Sup := if sdOk f = true then prR f else su0
def sdE (f : Nat → Nat) : Int := if sdOk f = true then 0 else 200
theorem su_build2 {P : Program} {ops : Array Oper} {rest : List Oper} {o : Oper} {a : Act} {w : World} {Q : Exit → Act → World → Prop} (hg : o.guard = none) (t : TypeId) (x y : Operand) (ho : o.op = .build t #[(0, x), (1, y)]) (vx vy : Value) (hx : a.eval x = vx) (hy : a.eval y = vy)
    (cells : Array Value) (hf : P.built t [(0, vx), (1, vy)] = some cells) (h : wpList P ops Q rest (a.put o.dst (.agg cells)) w) : wpList P ops Q (o :: rest) a w := by
  refine wpList_buildTo hg t _ ho o.dst rfl cells ?_ h
  have e : (Array.map (fun (x : Nat × Operand) => match x with | (i, x) => (i, a.eval x)) #[(0, x), (1, y)]).toList = [(0, vx), (1, vy)] := by simp [hx, hy]
  rw [e]
  exact hf
theorem su_build6 {P : Program} {ops : Array Oper} {rest : List Oper} {o : Oper} {a : Act} {w : World} {Q : Exit → Act → World → Prop} (hg : o.guard = none) (t : TypeId) (x0 x1 x2 x3 x4 x5 : Operand) (ho : o.op = .build t #[(0, x0), (1, x1), (2, x2), (3, x3), (4, x4), (5, x5)]) (v0 v1 v2 v3 v4 v5 : Value) (h0 : a.eval x0 = v0) (h1 : a.eval x1 = v1) (h2 : a.eval x2 = v2) (h3 : a.eval x3 = v3) (h4 : a.eval x4 = v4) (h5 : a.eval x5 = v5)
    (cells : Array Value) (hf : P.built t [(0, v0), (1, v1), (2, v2), (3, v3), (4, v4), (5, v5)] = some cells) (h : wpList P ops Q rest (a.put o.dst (.agg cells)) w) : wpList P ops Q (o :: rest) a w := by
  refine wpList_buildTo hg t _ ho o.dst rfl cells ?_ h
  have e : (Array.map (fun (x : Nat × Operand) => match x with | (i, x) => (i, a.eval x)) #[(0, x0), (1, x1), (2, x2), (3, x3), (4, x4), (5, x5)]).toList = [(0, v0), (1, v1), (2, v2), (3, v3), (4, v4), (5, v5)] := by simp [h0, h1, h2, h3, h4, h5]
  rw [e]
  exact hf
theorem sbuilt_tree (h : Int) (r : Rf) : Try.prog.built 29 [(0, .int .i64 h), (1, .agg (rfC r))] = some (tiC h r) := by kernel_rfl
theorem sbuilt_sup (x : Sup) : Try.prog.built 31 [(0, .int .i64 x.b), (1, .int .u64 ((x.c : Nat) : Int)), (2, .agg (tiC x.th x.tr)), (3, .int .i64 x.n), (4, .agg (tiC x.mh x.mr)), (5, .int .i64 x.u)] = some (suC x) := by kernel_rfl
theorem results_cell1 {P : Program} {fn : Func} {p : Tmp} {ty : TypeId} (h : fn.results = #[.cell p ty]) (tmps : Array Value) (w : World) (g : Nat) (t : TypeId) (cs : Array Value) (fr : Nat × Nat) (d : TypeDesc)
    (hp : tmps.getD p undef = .pointer (some ⟨g, 0, none⟩)) (hg : w.heap[g]? = some (.cells cs t fr))
    (hu : P.underlying ty = some d) (hd : (match d with | .struct _ | .array _ _ => true | _ => false) = true) (hi : (P.info? ty).map (·.size) = some cs.size) :
    (results fn tmps).run P w = .ok (.agg cs) w := results_cell_row h tmps w g t cs fr d hp hg hu hd hi
set_option maxRecDepth 100000 in
set_option maxHeartbeats 4000000 in
theorem snumber_any (f : Nat → Nat) (hf : ∀ i, f i < 256) (r : Nat) (h : r + 4 ≤ 256) (w : World) : Calls Try.prog 41 #[bkV f, .int .i64 (r : Int)] w fun e w' => e = .returned (.int .i64 ((le4f f r : Nat) : Int)) ∧ Below w.heap.size w w' := by
  have HT : Hid (∀ w, Calls Try.prog 44 #[bkV f, .int .i64 (r : Int)] w fun e w' => e = .returned (.tuple #[.int .u32 (le4f f r : Int), .int .i64 0]) ∧ Below w.heap.size w w') := take32_fit f hf r h
  have hl := sle4_lt f hf r
  generalize le4f f r = n at *
  have hw : IntKind.i64.wrap (n : Int) = (n : Int) := by rw [IntKind.wrap_i64]; omega
  unfold bkV at *
  have r0 : Blk (w.alloc (.cells (va 256 (iv .u8 f)) 33)) w.heap.size 33 (va 256 (iv .u8 f)) := Blk.new _ _ _
  have hb : Below w.heap.size w (w.alloc (.cells (va 256 (iv .u8 f)) 33)) := below_new1 _ _
  go_enter Try.func41, Try.ntmps41
  go_wp2_with (first | (refine wpList_load_rowg (by rfl) 33 _ (by rfl) (w.heap.size) (by rfl) 33 (va 256 (iv .u8 (f))) (0, 0) _ (by exact r0) Try.underlying33 (by rfl) (sizeBk.trans (by rw [va_size])) ?_; simp only [Act.put, List.setIfInBounds_toArray, List.set_cons_zero, List.set_cons_succ]) | fail)
  generalize (w.alloc (.cells (va 256 (iv .u8 f)) 33)) = W at *
  refine (HT.out _).mono ?_
  rintro e w1 ⟨rfl, hb1⟩
  have hb2 : Below w.heap.size w w1 := hb.trans (hb1.mono hb.size)
  go_wp2_with fail
  go_ret
  exact ⟨rfl, hb2⟩
set_option maxRecDepth 100000 in
set_option maxHeartbeats 4000000 in
theorem slaid_any (f : Nat → Nat) (hf : ∀ i, f i < 256) (r q : Nat) (h : r + 4 ≤ 256) (h2 : q + 36 ≤ 256) (w : World) : Calls Try.prog 42 #[bkV f, .int .i64 (r : Int), .int .i64 (q : Int)] w fun e w' => e = .returned (.agg (tiC ((le4f f r : Nat) : Int) (rtR (decR (strN f 256) q)))) ∧ Below w.heap.size w w' := by
  have hz := zero_ti
  have hz2 := zero_ref
  have HN : Hid (∀ w, Calls Try.prog 41 #[bkV f, .int .i64 (r : Int)] w fun e w' => e = .returned (.int .i64 ((le4f f r : Nat) : Int)) ∧ Below w.heap.size w w') := snumber_any f hf r h
  have HX : Hid (∀ w, Calls Try.prog 46 #[bkV f] w fun e w' => e = .returned (.string (strN f 256)) ∧ Below w.heap.size w w') := textOf_any f
  have HD : Hid (∀ w, Calls Try.prog 45 #[.string (strN f 256), .int .i64 (q : Int)] w fun e w' => e = .returned (.tuple #[.agg (rfC (rtR (decR (strN f 256) q))), .bool (rOk (decR (strN f 256) q))]) ∧ Below w.heap.size w w') := decodeR_good (strN f 256) q (by rw [strN_size]; decide) (by rw [strN_size]; exact h2)
  generalize rOk (decR (strN f 256) q) = ok at *
  generalize rtR (decR (strN f 256) q) = R at *
  generalize le4f f r = n at *
  generalize strN f 256 = TX at *
  have hbt := sbuilt_tree (n : Int) R
  unfold bkV at *
  have r0 : Blk ((w.alloc (.cells (va 256 (iv .u8 f)) 33)).alloc (.cells (tiC 0 rf0) 29)) w.heap.size 33 (va 256 (iv .u8 f)) := (Blk.new _ _ _).alloc _
  have r1 : Blk ((w.alloc (.cells (va 256 (iv .u8 f)) 33)).alloc (.cells (tiC 0 rf0) 29)) (w.heap.size + 1) 29 (tiC 0 rf0) := Blk.new1 _ _ _ _
  have hb : Below w.heap.size w ((w.alloc (.cells (va 256 (iv .u8 f)) 33)).alloc (.cells (tiC 0 rf0) 29)) := below_new2 _ _ _
  go_enter Try.func42, Try.ntmps42
  go_wp2_with (first | (refine wpList_load_rowg (by rfl) 33 _ (by rfl) (w.heap.size) (by rfl) 33 (va 256 (iv .u8 (f))) (0, 0) _ (by exact r0) Try.underlying33 (by rfl) (sizeBk.trans (by rw [va_size])) ?_; simp only [Act.put, List.setIfInBounds_toArray, List.set_cons_zero, List.set_cons_succ]) | fail)
  generalize ((w.alloc (.cells (va 256 (iv .u8 f)) 33)).alloc (.cells (tiC 0 rf0) 29)) = W at *
  refine (HX.out _).mono ?_
  rintro e w1 ⟨rfl, hb1⟩
  have q0 := r0.below hb1 r0.lt
  have q1 := r1.below hb1 r1.lt
  have hb2 : Below w.heap.size w w1 := hb.trans (hb1.mono hb.size)
  clear r0 r1 hb hb1 HX
  go_wp2_with fail
  refine (HD.out _).mono ?_
  rintro e w2 ⟨rfl, hb3⟩
  have p0 := q0.below hb3 q0.lt
  have p1 := q1.below hb3 q1.lt
  have hb4 : Below w.heap.size w w2 := hb2.trans (hb3.mono hb2.size)
  have l1 : w.heap.size + 1 < w2.heap.size := p1.lt
  clear q0 q1 hb2 hb3 HD
  have s0 : Blk (w2.alloc (.cells (rfC rf0) 27)) w2.heap.size 27 (rfC rf0) := Blk.new _ _ _
  have t0 : Blk ((w2.alloc (.cells (rfC rf0) 27)).setRow w2.heap.size (rfC R)) w.heap.size 33 (va 256 (iv .u8 f)) := (p0.alloc _).other _ (by omega)
  have t1 : Blk ((w2.alloc (.cells (rfC rf0) 27)).setRow w2.heap.size (rfC R)) (w.heap.size + 1) 29 (tiC 0 rf0) := (p1.alloc _).other _ (by omega)
  have t2 : Blk ((w2.alloc (.cells (rfC rf0) 27)).setRow w2.heap.size (rfC R)) w2.heap.size 27 (rfC R) := s0.set _
  have hb5 : Below w.heap.size w ((w2.alloc (.cells (rfC rf0) 27)).setRow w2.heap.size (rfC R)) := below_setRow (hb4.alloc hb4.size _) (by omega) _
  clear p0 p1 hb4
  go_wp2_with (first | (refine wpList_store_row (by rfl) 27 _ _ (by rfl) (w2.heap.size) (rfC R) (by rfl) (by rfl) 27 (_) (by exact s0) (slSizeRef.trans (by rw [rfC_size])) (by simp only [rfC_size]) (rfC_all _) ?_; simp only [Act.put, List.setIfInBounds_toArray, List.set_cons_zero, List.set_cons_succ]) | fail)
  clear s0
  generalize ((w2.alloc (.cells (rfC rf0) 27)).setRow w2.heap.size (rfC R)) = v at *
  generalize w2.heap.size = g at *
  have hS : Hid (Blk v.drew w.heap.size 33 (va 256 (iv .u8 f)) ∧ Blk v.drew (w.heap.size + 1) 29 (tiC 0 rf0) ∧ Blk v.drew g 27 (rfC R) ∧ Below w.heap.size w v.drew) := ⟨t0.drew, t1.drew, t2.drew, hb5.drew⟩
  clear t0 t1 t2 hb5
  refine wp_region_partsS (fun U => Hid (Blk U w.heap.size 33 (va 256 (iv .u8 f)) ∧ Blk U (w.heap.size + 1) 29 (tiC 0 rf0) ∧ Blk U g 27 (rfC R) ∧ Below w.heap.size w U)) [([1], 0, true), ([], 3, true), ([], 2, false), ([], 4, false)] [] [5] (by kernel_rfl) (by kernel_rfl) hS (partsI_yield ?_)
  simp only [List.cons_append, List.nil_append, List.append_nil, List.filterMap_cons, List.filterMap_nil, List.getElem?_toArray, List.getElem?_cons_zero, List.getElem?_cons_succ]
  go_wp2_with fail
  refine ⟨rfl, _, .agg (va 256 (iv .u8 f)), rfl, kyields_load (by rfl) 33 _ (by rfl) w.heap.size 256 (iv .u8 f) (by rfl) _ 33 (fun W hW => hW.out.1) Try.underlying33 rfl sizeBk, partsI_yield ?_⟩
  simp only [Act.put, List.setIfInBounds_toArray, List.set_cons_zero, List.set_cons_succ]
  simp only [List.cons_append, List.nil_append, List.append_nil, List.filterMap_cons, List.filterMap_nil, List.getElem?_toArray, List.getElem?_cons_zero, List.getElem?_cons_succ]
  go_wp2_with fail
  refine ⟨rfl, _, .agg (rfC R), rfl, kyields_load (by rfl) 27 _ (by rfl) g 33 (rfF R.1 R.2) (by rfl) _ 27 (fun W hW => hW.out.2.2.1) Try.underlying27 rfl slSizeRef, partsI_force ?_⟩
  simp only [Act.put, List.setIfInBounds_toArray, List.set_cons_zero, List.set_cons_succ]
  simp only [List.cons_append, List.nil_append, List.append_nil, List.filterMap_cons, List.filterMap_nil, List.getElem?_toArray, List.getElem?_cons_zero, List.getElem?_cons_succ]
  go_wp2_with fail
  refine (HN.out _).mono ?_
  rintro e y ⟨rfl, hy⟩
  have hS2 : Hid (Blk y w.heap.size 33 (va 256 (iv .u8 f)) ∧ Blk y (w.heap.size + 1) 29 (tiC 0 rf0) ∧ Blk y g 27 (rfC R) ∧ Below w.heap.size w y) := ⟨hS.out.1.below hy hS.out.1.lt, hS.out.2.1.below hy hS.out.2.1.lt, hS.out.2.2.1.below hy hS.out.2.2.1.lt, hS.out.2.2.2.trans (hy.mono hS.out.2.2.2.size)⟩
  clear hy hS HN
  go_wp2_with fail
  refine ⟨rfl, hS2, partsI_force ?_⟩
  simp only [List.cons_append, List.nil_append, List.append_nil, List.filterMap_cons, List.filterMap_nil, List.getElem?_toArray, List.getElem?_cons_zero, List.getElem?_cons_succ]
  refine su_build2 (by rfl) 29 _ _ (by rfl) (.int .i64 (n : Int)) (.agg (rfC R)) (by rfl) (by rfl) (tiC (n : Int) R) (by exact hbt) ?_
  simp only [Act.put, List.setIfInBounds_toArray, List.set_cons_zero, List.set_cons_succ]
  go_wp2_with fail
  refine ⟨rfl, hS2, partsI_last ?_⟩
  simp only [List.cons_append, List.nil_append, List.append_nil, List.filterMap_cons, List.filterMap_nil, List.getElem?_toArray, List.getElem?_cons_zero, List.getElem?_cons_succ]
  have hst := Blk.store (P := Try.prog) hS2.out.2.1 (tiC (n : Int) R) (by simp only [tiC_size]) (fun v hv => Array.all_eq_true'.1 (tiC_all (n : Int) R) v (Array.mem_toList_iff.1 hv))
  have hvs := tiC_size (n : Int) R
  go_wp2_with fail
  refine ⟨rfl, ?_⟩
  go_wp2_with fail
  try simp only [Exit.inBlock, Exit.then]
  refine bodyPost_ret (results_cell1 Try.results42 _ _ (w.heap.size + 1) 29 (tiC (n : Int) R) (0, 0) _ rfl (hS2.out.2.1.set _) Try.underlying29 rfl (sizeTi.trans (by rw [tiC_size]))) rfl ?_
  exact ⟨rfl, below_setRow hS2.out.2.2.2 (Nat.le_succ _) _⟩
set_option maxRecDepth 100000 in
set_option maxHeartbeats 4000000 in
theorem sparts_any (f : Nat → Nat) (hf : ∀ i, f i < 256) (w : World) : Calls Try.prog 31 #[bkV f] w fun e w' => e = .returned (.agg (suC (prB f))) ∧ Below w.heap.size w w' := by
  have hz := zero_sup
  have H64 : Hid (∀ w, Calls Try.prog 40 #[bkV f, .int .i64 16] w fun e w' => e = .returned (.tuple #[.int .u64 ((prB f).c : Int), .int .i64 0]) ∧ Below w.heap.size w w') := take64_fit f hf 16 (by decide)
  have N8 : Hid (∀ w, Calls Try.prog 41 #[bkV f, .int .i64 8] w fun e w' => e = .returned (.int .i64 (prB f).b) ∧ Below w.heap.size w w') := snumber_any f hf 8 (by decide)
  have N28 : Hid (∀ w, Calls Try.prog 41 #[bkV f, .int .i64 28] w fun e w' => e = .returned (.int .i64 (prB f).n) ∧ Below w.heap.size w w') := snumber_any f hf 28 (by decide)
  have N108 : Hid (∀ w, Calls Try.prog 41 #[bkV f, .int .i64 108] w fun e w' => e = .returned (.int .i64 (prB f).u) ∧ Below w.heap.size w w') := snumber_any f hf 108 (by decide)
  have T24 : Hid (∀ w, Calls Try.prog 42 #[bkV f, .int .i64 24, .int .i64 32] w fun e w' => e = .returned (.agg (tiC (prB f).th (prB f).tr)) ∧ Below w.heap.size w w') := slaid_any f hf 24 32 (by decide) (by decide)
  have T68 : Hid (∀ w, Calls Try.prog 42 #[bkV f, .int .i64 68, .int .i64 72] w fun e w' => e = .returned (.agg (tiC (prB f).mh (prB f).mr)) ∧ Below w.heap.size w w') := slaid_any f hf 68 72 (by decide) (by decide)
  have hbs := sbuilt_sup (prB f)
  generalize prB f = X at *
  unfold bkV at *
  have r0 : Blk ((w.alloc (.cells (va 256 (iv .u8 f)) 33)).alloc (.cells (suC su0) 31)) w.heap.size 33 (va 256 (iv .u8 f)) := (Blk.new _ _ _).alloc _
  have r1 : Blk ((w.alloc (.cells (va 256 (iv .u8 f)) 33)).alloc (.cells (suC su0) 31)) (w.heap.size + 1) 31 (suC su0) := Blk.new1 _ _ _ _
  have hb : Below w.heap.size w ((w.alloc (.cells (va 256 (iv .u8 f)) 33)).alloc (.cells (suC su0) 31)) := below_new2 _ _ _
  go_enter Try.func31, Try.ntmps31
  go_wp2_with (first | (refine wpList_load_rowg (by rfl) 33 _ (by rfl) (w.heap.size) (by rfl) 33 (va 256 (iv .u8 (f))) (0, 0) _ (by exact r0) Try.underlying33 (by rfl) (sizeBk.trans (by rw [va_size])) ?_; simp only [Act.put, List.setIfInBounds_toArray, List.set_cons_zero, List.set_cons_succ]) | fail)
  generalize ((w.alloc (.cells (va 256 (iv .u8 f)) 33)).alloc (.cells (suC su0) 31)) = W at *
  refine (H64.out _).mono ?_
  rintro e v ⟨rfl, hb1⟩
  have hS0 : Hid (Blk v.drew w.heap.size 33 (va 256 (iv .u8 f)) ∧ Blk v.drew (w.heap.size + 1) 31 (suC su0) ∧ Below w.heap.size w v.drew) := ⟨(r0.below hb1 r0.lt).drew, (r1.below hb1 r1.lt).drew, (hb.trans (hb1.mono hb.size)).drew⟩
  clear r0 r1 hb hb1 H64
  go_wp2_with fail
  refine wp_region_partsS (fun U => Hid (Blk U w.heap.size 33 (va 256 (iv .u8 f)) ∧ Blk U (w.heap.size + 1) 31 (suC su0) ∧ Below w.heap.size w U)) [([2], 0, true), ([], 3, true), ([], 5, true), ([], 7, true), ([], 9, true), ([], 1, false), ([], 4, false), ([], 6, false), ([], 8, false), ([], 10, false), ([], 11, false)] [] [12] (by kernel_rfl) (by kernel_rfl) hS0 (partsI_yield ?_)
  simp only [List.cons_append, List.nil_append, List.append_nil, List.filterMap_cons, List.filterMap_nil, List.getElem?_toArray, List.getElem?_cons_zero, List.getElem?_cons_succ]
  go_wp2_with fail
  refine ⟨rfl, _, .agg (va 256 (iv .u8 f)), rfl, kyields_load (by rfl) 33 _ (by rfl) w.heap.size 256 (iv .u8 f) (by rfl) _ 33 (fun W hW => hW.out.1) Try.underlying33 rfl sizeBk, partsI_yield ?_⟩
  simp only [Act.put, List.setIfInBounds_toArray, List.set_cons_zero, List.set_cons_succ]
  simp only [List.cons_append, List.nil_append, List.append_nil, List.filterMap_cons, List.filterMap_nil, List.getElem?_toArray, List.getElem?_cons_zero, List.getElem?_cons_succ]
  go_wp2_with fail
  refine ⟨rfl, _, .agg (va 256 (iv .u8 f)), rfl, kyields_load (by rfl) 33 _ (by rfl) w.heap.size 256 (iv .u8 f) (by rfl) _ 33 (fun W hW => hW.out.1) Try.underlying33 rfl sizeBk, partsI_yield ?_⟩
  simp only [Act.put, List.setIfInBounds_toArray, List.set_cons_zero, List.set_cons_succ]
  simp only [List.cons_append, List.nil_append, List.append_nil, List.filterMap_cons, List.filterMap_nil, List.getElem?_toArray, List.getElem?_cons_zero, List.getElem?_cons_succ]
  go_wp2_with fail
  refine ⟨rfl, _, .agg (va 256 (iv .u8 f)), rfl, kyields_load (by rfl) 33 _ (by rfl) w.heap.size 256 (iv .u8 f) (by rfl) _ 33 (fun W hW => hW.out.1) Try.underlying33 rfl sizeBk, partsI_yield ?_⟩
  simp only [Act.put, List.setIfInBounds_toArray, List.set_cons_zero, List.set_cons_succ]
  simp only [List.cons_append, List.nil_append, List.append_nil, List.filterMap_cons, List.filterMap_nil, List.getElem?_toArray, List.getElem?_cons_zero, List.getElem?_cons_succ]
  go_wp2_with fail
  refine ⟨rfl, _, .agg (va 256 (iv .u8 f)), rfl, kyields_load (by rfl) 33 _ (by rfl) w.heap.size 256 (iv .u8 f) (by rfl) _ 33 (fun W hW => hW.out.1) Try.underlying33 rfl sizeBk, partsI_yield ?_⟩
  simp only [Act.put, List.setIfInBounds_toArray, List.set_cons_zero, List.set_cons_succ]
  simp only [List.cons_append, List.nil_append, List.append_nil, List.filterMap_cons, List.filterMap_nil, List.getElem?_toArray, List.getElem?_cons_zero, List.getElem?_cons_succ]
  go_wp2_with fail
  refine ⟨rfl, _, .agg (va 256 (iv .u8 f)), rfl, kyields_load (by rfl) 33 _ (by rfl) w.heap.size 256 (iv .u8 f) (by rfl) _ 33 (fun W hW => hW.out.1) Try.underlying33 rfl sizeBk, partsI_force ?_⟩
  simp only [Act.put, List.setIfInBounds_toArray, List.set_cons_zero, List.set_cons_succ]
  simp only [List.cons_append, List.nil_append, List.append_nil, List.filterMap_cons, List.filterMap_nil, List.getElem?_toArray, List.getElem?_cons_zero, List.getElem?_cons_succ]
  go_wp2_with fail
  refine (N8.out _).mono ?_
  rintro e y0 ⟨rfl, hy0⟩
  have hS1 : Hid (Blk y0 w.heap.size 33 (va 256 (iv .u8 f)) ∧ Blk y0 (w.heap.size + 1) 31 (suC su0) ∧ Below w.heap.size w y0) := ⟨hS0.out.1.below hy0 hS0.out.1.lt, hS0.out.2.1.below hy0 hS0.out.2.1.lt, hS0.out.2.2.trans (hy0.mono hS0.out.2.2.size)⟩
  clear hy0 hS0 N8
  go_wp2_with fail
  refine ⟨rfl, hS1, partsI_force ?_⟩
  simp only [List.cons_append, List.nil_append, List.append_nil, List.filterMap_cons, List.filterMap_nil, List.getElem?_toArray, List.getElem?_cons_zero, List.getElem?_cons_succ]
  go_wp2_with fail
  refine (T24.out _).mono ?_
  rintro e y1 ⟨rfl, hy1⟩
  have hS2 : Hid (Blk y1 w.heap.size 33 (va 256 (iv .u8 f)) ∧ Blk y1 (w.heap.size + 1) 31 (suC su0) ∧ Below w.heap.size w y1) := ⟨hS1.out.1.below hy1 hS1.out.1.lt, hS1.out.2.1.below hy1 hS1.out.2.1.lt, hS1.out.2.2.trans (hy1.mono hS1.out.2.2.size)⟩
  clear hy1 hS1 T24
  go_wp2_with fail
  refine ⟨rfl, hS2, partsI_force ?_⟩
  simp only [List.cons_append, List.nil_append, List.append_nil, List.filterMap_cons, List.filterMap_nil, List.getElem?_toArray, List.getElem?_cons_zero, List.getElem?_cons_succ]
  go_wp2_with fail
  refine (N28.out _).mono ?_
  rintro e y2 ⟨rfl, hy2⟩
  have hS3 : Hid (Blk y2 w.heap.size 33 (va 256 (iv .u8 f)) ∧ Blk y2 (w.heap.size + 1) 31 (suC su0) ∧ Below w.heap.size w y2) := ⟨hS2.out.1.below hy2 hS2.out.1.lt, hS2.out.2.1.below hy2 hS2.out.2.1.lt, hS2.out.2.2.trans (hy2.mono hS2.out.2.2.size)⟩
  clear hy2 hS2 N28
  go_wp2_with fail
  refine ⟨rfl, hS3, partsI_force ?_⟩
  simp only [List.cons_append, List.nil_append, List.append_nil, List.filterMap_cons, List.filterMap_nil, List.getElem?_toArray, List.getElem?_cons_zero, List.getElem?_cons_succ]
  go_wp2_with fail
  refine (T68.out _).mono ?_
  rintro e y3 ⟨rfl, hy3⟩
  have hS4 : Hid (Blk y3 w.heap.size 33 (va 256 (iv .u8 f)) ∧ Blk y3 (w.heap.size + 1) 31 (suC su0) ∧ Below w.heap.size w y3) := ⟨hS3.out.1.below hy3 hS3.out.1.lt, hS3.out.2.1.below hy3 hS3.out.2.1.lt, hS3.out.2.2.trans (hy3.mono hS3.out.2.2.size)⟩
  clear hy3 hS3 T68
  go_wp2_with fail
  refine ⟨rfl, hS4, partsI_force ?_⟩
  simp only [List.cons_append, List.nil_append, List.append_nil, List.filterMap_cons, List.filterMap_nil, List.getElem?_toArray, List.getElem?_cons_zero, List.getElem?_cons_succ]
  go_wp2_with fail
  refine (N108.out _).mono ?_
  rintro e y4 ⟨rfl, hy4⟩
  have hS5 : Hid (Blk y4 w.heap.size 33 (va 256 (iv .u8 f)) ∧ Blk y4 (w.heap.size + 1) 31 (suC su0) ∧ Below w.heap.size w y4) := ⟨hS4.out.1.below hy4 hS4.out.1.lt, hS4.out.2.1.below hy4 hS4.out.2.1.lt, hS4.out.2.2.trans (hy4.mono hS4.out.2.2.size)⟩
  clear hy4 hS4 N108
  go_wp2_with fail
  refine ⟨rfl, hS5, partsI_force ?_⟩
  simp only [List.cons_append, List.nil_append, List.append_nil, List.filterMap_cons, List.filterMap_nil, List.getElem?_toArray, List.getElem?_cons_zero, List.getElem?_cons_succ]
  refine su_build6 (by rfl) 31 _ _ _ _ _ _ (by rfl) _ _ _ _ _ _ (by rfl) (by rfl) (by rfl) (by rfl) (by rfl) (by rfl) (suC X) (by exact hbs) ?_
  simp only [Act.put, List.setIfInBounds_toArray, List.set_cons_zero, List.set_cons_succ]
  go_wp2_with fail
  refine ⟨rfl, hS5, partsI_last ?_⟩
  simp only [List.cons_append, List.nil_append, List.append_nil, List.filterMap_cons, List.filterMap_nil, List.getElem?_toArray, List.getElem?_cons_zero, List.getElem?_cons_succ]
  have hst := Blk.store (P := Try.prog) hS5.out.2.1 (suC X) (by simp only [suC_size]) (fun v hv => Array.all_eq_true'.1 (suC_all X) v (Array.mem_toList_iff.1 hv))
  have hvs := suC_size X
  go_wp2_with fail
  refine ⟨rfl, ?_⟩
  go_wp2_with fail
  try simp only [Exit.inBlock, Exit.then]
  refine bodyPost_ret (results_cell1 Try.results31 _ _ (w.heap.size + 1) 31 (suC X) (0, 0) _ rfl (hS5.out.2.1.set _) Try.underlying31 rfl (sizeSup.trans (by rw [suC_size]))) rfl ?_
  exact ⟨rfl, below_setRow hS5.out.2.2 (Nat.le_succ _) _⟩
end Go.Proofs.Ytalnfphlhcojcaa
