/- SuperCodes: the walk. -/
import Derived.Test.YtalnfphlhcojcaaHSuRDec
import Derived.Test.YtalnfphlhcojcaaHSuDcd
import Derived.Test.YtalnfphlhcojcaaHSegsS
import Derived.Deep.DeepCutAuto
import Derived.Deep.Cut
import Derived.Handy

namespace Go.Proofs.Ytalnfphlhcojcaa
open Go Go.RowKit
set_option linter.unusedSimpArgs false
set_option linter.unusedVariables false
set_option maxRecDepth 20000
/-- what lies in the memory: a root, a block -/
structure CK (w0 w : World) (x : Sup) (f : Nat → Nat) : Prop where
  b : Below w0.heap.size w0 w
  x : Blk w w0.heap.size 31 (suC x)
  f : Blk w (w0.heap.size + 1) 33 (va 256 (iv .u8 f))
theorem CK.below {w0 w w' : World} {x : Sup} {f : Nat → Nat} (e : CK w0 w x f) (b : Below w.heap.size w w') : CK w0 w' x f :=
  ⟨e.b.trans (b.mono e.b.size), e.x.below b e.x.lt, e.f.below b e.f.lt⟩
theorem CK.lt {w0 w : World} {x : Sup} {f : Nat → Nat} (e : CK w0 w x f) : w0.heap.size + 1 < w.heap.size := e.f.lt
theorem CK.put {w0 w : World} {x : Sup} {f : Nat → Nat} (e : CK w0 w x f) (t : TypeId) (c1 c2 : Array Value) : CK w0 ((w.alloc (.cells c1 t)).setRow w.heap.size c2) x f :=
  ⟨below_setRow (e.b.alloc e.b.size _) e.b.size _, (e.x.alloc _).other _ (by have := e.lt; omega), (e.f.alloc _).other _ (by have := e.lt; omega)⟩
theorem ck_put {w : World} {g T t : Nat} {cs c1 c2 : Array Value} (h : Blk w g T cs) : Blk ((w.alloc (.cells c1 t)).setRow w.heap.size c2) g T cs := (h.alloc _).other _ (by have := h.lt; omega)
theorem ck_new (w : World) (t : TypeId) (c1 c2 : Array Value) : Blk ((w.alloc (.cells c1 t)).setRow w.heap.size c2) w.heap.size t c2 := (Blk.new w t c1).set c2
theorem ck_text {w : World} {g : Nat} {F : Nat → Nat} (h : Blk w g 33 (va 256 (iv .u8 F))) : (convert 48 9 (.slice (some ⟨g, 0, none⟩) 256 256)).run Try.prog w = .ok (.string (strN F 256)) w := by
  have hc := run_bytes_text (P := Try.prog) w 48 5 9 Try.underlying48 Try.underlying5 Try.underlying9 h 0 256 256 (by omega)
  rw [strN_congr (f := fun j => F (0 + j)) (g := F) fun j _ => by rw [Nat.zero_add]] at hc
  exact hc
theorem ck_eqT (a : ByteArray) : (a.toList == a.toList) = true := beq_self_eq_true _
theorem ck_zero : Try.prog.built 33 [] = some (va 256 (iv .u8 fun _ => 0)) := by kernel_rfl
theorem ck_build0 {P : Program} {ops : Array Oper} {rest : List Oper} {o : Oper} {a : Act} {w : World} {Q : Exit → Act → World → Prop} (hw : Region.wanted o (yielded ops a.tmps) = true) (t : TypeId) (ho : o.op = .build t #[])
    (cells : Array Value) (hf : P.built t [] = some cells) (h : wpList P ops Q rest (a.put o.dst (.agg cells)) w) : wpList P ops Q (o :: rest) a w :=
  wpList_step fun K hK => by
    rw [if_pos hw]
    have e : (Array.map (fun (x : Nat × Operand) => match x with | (i, x) => (i, a.eval x)) #[]).toList = [] := by simp
    refine wp_build t _ ho (by rw [e, hf]; rfl) ?_
    rw [e, hf]
    exact hK _ _ h
set_option maxRecDepth 100000 in
set_option maxHeartbeats 4000000 in
theorem superCodes_ok (x : Sup) (hx : SuW x) (f : Nat → Nat) (hf : ∀ i, f i < 256) (hc : sck x = true) (w : World) : Calls Try.prog 3 #[.agg (suC x), bkV f] w fun e w' => e = .returned (.bool true) ∧ Below w.heap.size w w' := by
  have hz := zero_bk
  have hz2 := zero_sup
  have hz3 := zero_rsup
  have HA : Hid (∀ w : World, Calls Try.prog 6 #[] w fun e w' => e = .returned (.bool true) ∧ w' = w) := awake20_any
  have HG : Hid (∀ w, Calls Try.prog 9 #[.agg (suC x)] w fun e w' => e = .returned (.agg (suC x)) ∧ Below w.heap.size w w') := given20_any x
  have HB : Hid (∀ w, Calls Try.prog 11 #[bkV f] w fun e w' => e = .returned (.tuple #[.agg (suC (sdV f)), .int .i64 (sdE f)]) ∧ Below w.heap.size w w') := sdecode_any f hf
  have HD : Hid (∀ w, Calls Try.prog 12 #[.string (strN f 256)] w fun e w' => e = .returned (.tuple #[.agg (suC (sdV f)), .bool (sdOk f)]) ∧ Below w.heap.size w w') := rsdecode_any f hf
  have HG2 : Hid (∀ w, Calls Try.prog 9 #[.agg (suC (sdV f))] w fun e w' => e = .returned (.agg (suC (sdV f))) ∧ Below w.heap.size w w') := given20_any (sdV f)
  have HQ : Hid (∀ W, (Op.equalIn 10000 45 (.agg (suC (sdV f))) (.agg (suC (sdV f)))).run Try.prog W = .ok true W) := fun W => by
    rw [eq_rsup 9995 (sdV f) (sdV f) W, decide_eq_true rfl]
  have HSE : Hid ((sdOk f = false → sdE f = 200) ∧ (sdOk f = true → sdE f = 0)) := by
    refine ⟨fun h => ?_, fun h => ?_⟩
    · unfold sdE; rw [h]; rfl
    · unfold sdE; rw [h]; rfl
  have HX : Hid (∀ w, Calls Try.prog 7 #[.agg (suC x)] w fun e w' => e = .returned (.tuple #[bkV (suB x), .int .i64 0]) ∧ Below w.heap.size w w') := sencode_ok x hx hc
  have HR : Hid (∀ w, Calls Try.prog 8 #[.agg (suC x)] w fun e w' => e = .returned (.tuple #[.string (strN (suB x) 256), .bool true]) ∧ Below w.heap.size w w') := rsencode_ok x hx hc
  have HC : Hid (∀ w, Calls Try.prog 10 #[.agg (suC x)] w fun e w' => e = .returned (.int .i64 0) ∧ Below w.heap.size w w') := by
    have := scheck_any x hx
    rw [show scE x = 0 by unfold scE; rw [hc]; rfl] at this
    exact this
  generalize suB x = FX at *
  generalize sdV f = SV at *
  generalize sdE f = SE at *
  generalize sdOk f = OK at *
  clear hx hf hc
  unfold bkV at *
  have K0 : Hid (CK w ((w.alloc (.cells (suC x) 31)).alloc (.cells (va 256 (iv .u8 f)) 33)) x f) := ⟨below_new2 _ _ _, (Blk.new _ _ _).alloc _, Blk.new1 _ _ _ _⟩
  go_enter Try.func3, Try.ntmps3
  go_wp2_with fail
  generalize ((w.alloc (.cells (suC x) 31)).alloc (.cells (va 256 (iv .u8 f)) 33)) = w1 at *
  refine (HA.out _).mono ?_
  rintro e _ ⟨rfl, rfl⟩
  go_wp2_with (first | (refine wpList_load_rowg (by rfl) 31 _ (by rfl) (w.heap.size) (by rfl) 31 (suC (x)) (0, 0) _ (by exact K0.out.x) Try.underlying31 (by rfl) (sizeSup.trans (by rw [suC_size])) ?_; simp only [Act.put, List.setIfInBounds_toArray, List.set_cons_zero, List.set_cons_succ]) | fail)
  refine (HX.out _).mono ?_
  rintro e w2 ⟨rfl, hb2⟩
  have K1 : Hid (CK w w2 x f) := K0.out.below hb2
  clear hb2 K0 HA HX
  have n1 : Blk (w2.alloc (.cells (va 256 (iv .u8 fun _ => 0)) 33)) w2.heap.size 33 (va 256 (iv .u8 fun _ => 0)) := Blk.new _ _ _
  have K2 : Hid (CK w ((w2.alloc (.cells (va 256 (iv .u8 fun _ => 0)) 33)).setRow w2.heap.size (va 256 (iv .u8 FX))) x f) := K1.out.put _ _ _
  have c2 : Hid (Blk ((w2.alloc (.cells (va 256 (iv .u8 fun _ => 0)) 33)).setRow w2.heap.size (va 256 (iv .u8 FX))) w2.heap.size 33 (va 256 (iv .u8 FX))) := ck_new _ _ _ _
  go_wp2_with (first | (refine wpList_store_row (by rfl) 33 _ _ (by rfl) (w2.heap.size) (va 256 (iv .u8 (FX))) (by rfl) (by rfl) 33 (_) (by exact n1) (sizeBk.trans (by rw [va_size])) (by simp only [va_size]) (iv_one _ _ _) ?_; simp only [Act.put, List.setIfInBounds_toArray, List.set_cons_zero, List.set_cons_succ]) | (refine wpList_load_rowg (by rfl) 31 _ (by rfl) (w.heap.size) (by rfl) 31 (suC (x)) (0, 0) _ (by exact K2.out.x) Try.underlying31 (by rfl) (sizeSup.trans (by rw [suC_size])) ?_; simp only [Act.put, List.setIfInBounds_toArray, List.set_cons_zero, List.set_cons_succ]) | fail)
  clear n1 K1
  generalize ((w2.alloc (.cells (va 256 (iv .u8 fun _ => 0)) 33)).setRow w2.heap.size (va 256 (iv .u8 FX))) = v2 at *
  generalize w2.heap.size = gc at *
  refine (HG.out _).mono ?_
  rintro e w3 ⟨rfl, hb3⟩
  have K3 : Hid (CK w w3 x f) := K2.out.below hb3
  have c3 : Hid (Blk w3 gc 33 (va 256 (iv .u8 FX))) := c2.out.below hb3 c2.out.lt
  clear hb3 K2 c2 HG
  go_wp2_with fail
  refine (HR.out _).mono ?_
  rintro e w4 ⟨rfl, hb4⟩
  have K4 : Hid (CK w w4 x f) := K3.out.below hb4
  have c4 : Hid (Blk w4 gc 33 (va 256 (iv .u8 FX))) := c3.out.below hb4 c3.out.lt
  clear hb4 K3 c3 HR
  go_wp2_with (first | (refine wpList_load_rowg (by rfl) 31 _ (by rfl) (w.heap.size) (by rfl) 31 (suC (x)) (0, 0) _ (by exact K4.out.x) Try.underlying31 (by rfl) (sizeSup.trans (by rw [suC_size])) ?_; simp only [Act.put, List.setIfInBounds_toArray, List.set_cons_zero, List.set_cons_succ]) | fail)
  refine (HC.out _).mono ?_
  rintro e w5 ⟨rfl, hb5⟩
  have K5 : Hid (CK w w5 x f) := K4.out.below hb5
  have c5 : Blk w5 gc 33 (va 256 (iv .u8 FX)) := c4.out.below hb5 c4.out.lt
  clear hb5 K4 c4 HC
  have ht := ck_text c5
  generalize strN FX 256 = TX at *
  have hql := ck_eqT TX
  go_upto_region 7 with fail
  clear ht hql c5
  as_aux_lemma =>
    go_wp2_with (first | (refine wpList_load_rowg (by rfl) 33 _ (by rfl) (w.heap.size + 1) (by rfl) 33 (va 256 (iv .u8 (f))) (0, 0) _ (by exact K5.out.f) Try.underlying33 (by rfl) (sizeBk.trans (by rw [va_size])) ?_; simp only [Act.put, List.setIfInBounds_toArray, List.set_cons_zero, List.set_cons_succ]) | fail)
    refine (HB.out _).mono ?_
    rintro e w7 ⟨rfl, hb7⟩
    have K7 : Hid (CK w w7 x f) := K5.out.below hb7
    clear hb7 K5 HB
    have n1 : Blk (w7.alloc (.cells (suC su0) 31)) w7.heap.size 31 (suC su0) := Blk.new _ _ _
    have K8 : Hid (CK w ((w7.alloc (.cells (suC su0) 31)).setRow w7.heap.size (suC SV)) x f) := K7.out.put _ _ _
    have y8 : Hid (Blk ((w7.alloc (.cells (suC su0) 31)).setRow w7.heap.size (suC SV)) w7.heap.size 31 (suC SV)) := ck_new _ _ _ _
    have ht := ck_text K8.out.f
    generalize strN f 256 = TF at *
    go_wp2_with (first | (refine wpList_store_row (by rfl) 31 _ _ (by rfl) (w7.heap.size) (suC (SV)) (by rfl) (by rfl) 31 (_) (by exact n1) (sizeSup.trans (by rw [suC_size])) (by simp only [suC_size]) (suC_all _) ?_; simp only [Act.put, List.setIfInBounds_toArray, List.set_cons_zero, List.set_cons_succ]) | fail)
    clear n1 K7 ht
    generalize ((w7.alloc (.cells (suC su0) 31)).setRow w7.heap.size (suC SV)) = v8 at *
    generalize w7.heap.size = gy at *
    refine (HD.out _).mono ?_
    rintro e w8 ⟨rfl, hb8⟩
    have K9 : Hid (CK w w8 x f) := K8.out.below hb8
    have y9 : Hid (Blk w8 gy 31 (suC SV)) := y8.out.below hb8 y8.out.lt
    clear hb8 K8 y8 HD
    have n1 : Blk (w8.alloc (.cells (suC su0) 45)) w8.heap.size 45 (suC su0) := Blk.new _ _ _
    have K10 : Hid (CK w ((w8.alloc (.cells (suC su0) 45)).setRow w8.heap.size (suC SV)) x f) := K9.out.put _ _ _
    have y10 : Hid (Blk ((w8.alloc (.cells (suC su0) 45)).setRow w8.heap.size (suC SV)) gy 31 (suC SV)) := ck_put y9.out
    have z10 : Hid (Blk ((w8.alloc (.cells (suC su0) 45)).setRow w8.heap.size (suC SV)) w8.heap.size 45 (suC SV)) := ck_new _ _ _ _
    go_wp2_with (first | (refine wpList_store_row (by rfl) 45 _ _ (by rfl) (w8.heap.size) (suC (SV)) (by rfl) (by rfl) 45 (_) (by exact n1) (sizeRSup.trans (by rw [suC_size])) (by simp only [suC_size]) (suC_all _) ?_; simp only [Act.put, List.setIfInBounds_toArray, List.set_cons_zero, List.set_cons_succ]) | fail)
    clear n1 K9 y9
    generalize ((w8.alloc (.cells (suC su0) 45)).setRow w8.heap.size (suC SV)) = v10 at *
    generalize w8.heap.size = gz at *
    have hS0 : Hid (Blk v10.drew gy 31 (suC SV) ∧ Blk v10.drew gz 45 (suC SV) ∧ Below w.heap.size w v10.drew) := ⟨y10.out.drew, z10.out.drew, K10.out.b.drew⟩
    clear y10 z10 K10
    have hq := HQ.out
    cases OK
    · have e : SE = 200 := HSE.out.1 rfl
      subst e
      as_aux_lemma =>
        refine wp_region_partsS (fun U => Hid (Blk U gy 31 (suC SV) ∧ Blk U gz 45 (suC SV) ∧ Below w.heap.size w U)) [([], 0, true), ([], 2, true), ([], 1, false), ([], 3, false), ([4, 5, 7], 6, false), ([], 8, false), ([9, 10, 11, 12, 13], 14, false)] [15, 16, 17] [] (by kernel_rfl) (by kernel_rfl) hS0 (partsI_yield ?_)
        simp only [List.cons_append, List.nil_append, List.append_nil, List.filterMap_cons, List.filterMap_nil, List.getElem?_toArray, List.getElem?_cons_zero, List.getElem?_cons_succ]
        go_wp2_with fail
        first | (refine ⟨rfl, _, .agg (suC SV), rfl, kyields_load (by rfl) 31 _ (by rfl) (gy) 72 (suF SV) (by rfl) _ 31 (fun W hW => hW.out.1) Try.underlying31 rfl sizeSup, partsI_yield ?_⟩) | (refine ⟨rfl, .agg (suC SV), kyields_load (by rfl) 31 _ (by rfl) (gy) 72 (suF SV) (by rfl) _ 31 (fun W hW => hW.out.1) Try.underlying31 rfl sizeSup, partsI_yield ?_⟩)
        simp only [Act.put, List.setIfInBounds_toArray, List.set_cons_zero, List.set_cons_succ]
        simp only [List.cons_append, List.nil_append, List.append_nil, List.filterMap_cons, List.filterMap_nil, List.getElem?_toArray, List.getElem?_cons_zero, List.getElem?_cons_succ]
        go_wp2_with fail
        first | (refine ⟨rfl, _, .agg (suC SV), rfl, kyields_load (by rfl) 45 _ (by rfl) (gz) 72 (suF SV) (by rfl) _ 45 (fun W hW => hW.out.2.1) Try.underlying45 rfl sizeRSup, partsI_force ?_⟩) | (refine ⟨rfl, .agg (suC SV), kyields_load (by rfl) 45 _ (by rfl) (gz) 72 (suF SV) (by rfl) _ 45 (fun W hW => hW.out.2.1) Try.underlying45 rfl sizeRSup, partsI_force ?_⟩)
        simp only [Act.put, List.setIfInBounds_toArray, List.set_cons_zero, List.set_cons_succ]
        simp only [List.cons_append, List.nil_append, List.append_nil, List.filterMap_cons, List.filterMap_nil, List.getElem?_toArray, List.getElem?_cons_zero, List.getElem?_cons_succ]
        go_wp2_with fail
        refine (HG2.out _).mono ?_
        rintro e y0 ⟨rfl, hy0⟩
        have hS1 : Hid (Blk y0 gy 31 (suC SV) ∧ Blk y0 gz 45 (suC SV) ∧ Below w.heap.size w y0) := ⟨hS0.out.1.below hy0 hS0.out.1.lt, hS0.out.2.1.below hy0 hS0.out.2.1.lt, hS0.out.2.2.trans (hy0.mono hS0.out.2.2.size)⟩
        clear hy0 hS0 HG2
        go_wp2_with fail
        refine ⟨rfl, hS1, partsI_force ?_⟩
        simp only [List.cons_append, List.nil_append, List.append_nil, List.filterMap_cons, List.filterMap_nil, List.getElem?_toArray, List.getElem?_cons_zero, List.getElem?_cons_succ]
        go_wp2_with fail
        refine ⟨rfl, hS1, partsI_force ?_⟩
        simp only [List.cons_append, List.nil_append, List.append_nil, List.filterMap_cons, List.filterMap_nil, List.getElem?_toArray, List.getElem?_cons_zero, List.getElem?_cons_succ]
        go_wp2_with fail
        refine ⟨rfl, hS1, partsI_force ?_⟩
        simp only [List.cons_append, List.nil_append, List.append_nil, List.filterMap_cons, List.filterMap_nil, List.getElem?_toArray, List.getElem?_cons_zero, List.getElem?_cons_succ]
        go_wp2_with fail
        refine ⟨rfl, hS1, partsI_force ?_⟩
        simp only [List.cons_append, List.nil_append, List.append_nil, List.filterMap_cons, List.filterMap_nil, List.getElem?_toArray, List.getElem?_cons_zero, List.getElem?_cons_succ]
        go_wp2_with fail
        refine ⟨rfl, hS1, partsI_last ?_⟩
        simp only [List.cons_append, List.nil_append, List.append_nil, List.filterMap_cons, List.filterMap_nil, List.getElem?_toArray, List.getElem?_cons_zero, List.getElem?_cons_succ]
        go_wp2_with fail
        refine ⟨rfl, ?_⟩
        go_wp2_with fail
        go_ret
        exact ⟨rfl, hS1.out.2.2⟩
    · have e : SE = 0 := HSE.out.2 rfl
      subst e
      as_aux_lemma =>
        refine wp_region_partsS (fun U => Hid (Blk U gy 31 (suC SV) ∧ Blk U gz 45 (suC SV) ∧ Below w.heap.size w U)) [([], 0, true), ([], 2, true), ([], 1, false), ([], 3, false), ([4, 5, 7], 6, false), ([], 8, false), ([9, 10, 11, 12, 13], 14, false)] [15, 16, 17] [] (by kernel_rfl) (by kernel_rfl) hS0 (partsI_yield ?_)
        simp only [List.cons_append, List.nil_append, List.append_nil, List.filterMap_cons, List.filterMap_nil, List.getElem?_toArray, List.getElem?_cons_zero, List.getElem?_cons_succ]
        go_wp2_with fail
        first | (refine ⟨rfl, _, .agg (suC SV), rfl, kyields_load (by rfl) 31 _ (by rfl) (gy) 72 (suF SV) (by rfl) _ 31 (fun W hW => hW.out.1) Try.underlying31 rfl sizeSup, partsI_yield ?_⟩) | (refine ⟨rfl, .agg (suC SV), kyields_load (by rfl) 31 _ (by rfl) (gy) 72 (suF SV) (by rfl) _ 31 (fun W hW => hW.out.1) Try.underlying31 rfl sizeSup, partsI_yield ?_⟩)
        simp only [Act.put, List.setIfInBounds_toArray, List.set_cons_zero, List.set_cons_succ]
        simp only [List.cons_append, List.nil_append, List.append_nil, List.filterMap_cons, List.filterMap_nil, List.getElem?_toArray, List.getElem?_cons_zero, List.getElem?_cons_succ]
        go_wp2_with fail
        first | (refine ⟨rfl, _, .agg (suC SV), rfl, kyields_load (by rfl) 45 _ (by rfl) (gz) 72 (suF SV) (by rfl) _ 45 (fun W hW => hW.out.2.1) Try.underlying45 rfl sizeRSup, partsI_force ?_⟩) | (refine ⟨rfl, .agg (suC SV), kyields_load (by rfl) 45 _ (by rfl) (gz) 72 (suF SV) (by rfl) _ 45 (fun W hW => hW.out.2.1) Try.underlying45 rfl sizeRSup, partsI_force ?_⟩)
        simp only [Act.put, List.setIfInBounds_toArray, List.set_cons_zero, List.set_cons_succ]
        simp only [List.cons_append, List.nil_append, List.append_nil, List.filterMap_cons, List.filterMap_nil, List.getElem?_toArray, List.getElem?_cons_zero, List.getElem?_cons_succ]
        go_wp2_with fail
        refine (HG2.out _).mono ?_
        rintro e y0 ⟨rfl, hy0⟩
        have hS1 : Hid (Blk y0 gy 31 (suC SV) ∧ Blk y0 gz 45 (suC SV) ∧ Below w.heap.size w y0) := ⟨hS0.out.1.below hy0 hS0.out.1.lt, hS0.out.2.1.below hy0 hS0.out.2.1.lt, hS0.out.2.2.trans (hy0.mono hS0.out.2.2.size)⟩
        clear hy0 hS0 HG2
        go_wp2_with fail
        refine ⟨rfl, hS1, partsI_force ?_⟩
        simp only [List.cons_append, List.nil_append, List.append_nil, List.filterMap_cons, List.filterMap_nil, List.getElem?_toArray, List.getElem?_cons_zero, List.getElem?_cons_succ]
        go_wp2_with fail
        refine ⟨rfl, hS1, partsI_force ?_⟩
        simp only [List.cons_append, List.nil_append, List.append_nil, List.filterMap_cons, List.filterMap_nil, List.getElem?_toArray, List.getElem?_cons_zero, List.getElem?_cons_succ]
        go_wp2_with fail
        refine ⟨rfl, hS1, partsI_force ?_⟩
        simp only [List.cons_append, List.nil_append, List.append_nil, List.filterMap_cons, List.filterMap_nil, List.getElem?_toArray, List.getElem?_cons_zero, List.getElem?_cons_succ]
        go_wp2_with fail
        refine ⟨rfl, hS1, partsI_force ?_⟩
        simp only [List.cons_append, List.nil_append, List.append_nil, List.filterMap_cons, List.filterMap_nil, List.getElem?_toArray, List.getElem?_cons_zero, List.getElem?_cons_succ]
        go_wp2_with fail
        refine ⟨rfl, hS1, partsI_last ?_⟩
        simp only [List.cons_append, List.nil_append, List.append_nil, List.filterMap_cons, List.filterMap_nil, List.getElem?_toArray, List.getElem?_cons_zero, List.getElem?_cons_succ]
        go_wp2_with fail
        refine ⟨rfl, ?_⟩
        go_wp2_with fail
        go_ret
        exact ⟨rfl, hS1.out.2.2⟩
set_option maxRecDepth 100000 in
set_option maxHeartbeats 4000000 in
theorem superCodes_no (x : Sup) (hx : SuW x) (f : Nat → Nat) (hf : ∀ i, f i < 256) (hc : sck x = false) (w : World) : Calls Try.prog 3 #[.agg (suC x), bkV f] w fun e w' => e = .returned (.bool true) ∧ Below w.heap.size w w' := by
  have hz := zero_bk
  have hz2 := zero_sup
  have hz3 := zero_rsup
  have HA : Hid (∀ w : World, Calls Try.prog 6 #[] w fun e w' => e = .returned (.bool true) ∧ w' = w) := awake20_any
  have HG : Hid (∀ w, Calls Try.prog 9 #[.agg (suC x)] w fun e w' => e = .returned (.agg (suC x)) ∧ Below w.heap.size w w') := given20_any x
  have HB : Hid (∀ w, Calls Try.prog 11 #[bkV f] w fun e w' => e = .returned (.tuple #[.agg (suC (sdV f)), .int .i64 (sdE f)]) ∧ Below w.heap.size w w') := sdecode_any f hf
  have HD : Hid (∀ w, Calls Try.prog 12 #[.string (strN f 256)] w fun e w' => e = .returned (.tuple #[.agg (suC (sdV f)), .bool (sdOk f)]) ∧ Below w.heap.size w w') := rsdecode_any f hf
  have HG2 : Hid (∀ w, Calls Try.prog 9 #[.agg (suC (sdV f))] w fun e w' => e = .returned (.agg (suC (sdV f))) ∧ Below w.heap.size w w') := given20_any (sdV f)
  have HQ : Hid (∀ W, (Op.equalIn 10000 45 (.agg (suC (sdV f))) (.agg (suC (sdV f)))).run Try.prog W = .ok true W) := fun W => by
    rw [eq_rsup 9995 (sdV f) (sdV f) W, decide_eq_true rfl]
  have HSE : Hid ((sdOk f = false → sdE f = 200) ∧ (sdOk f = true → sdE f = 0)) := by
    refine ⟨fun h => ?_, fun h => ?_⟩
    · unfold sdE; rw [h]; rfl
    · unfold sdE; rw [h]; rfl
  obtain ⟨FX, hFX⟩ : ∃ Z : Nat → Nat, Z = fun _ => 0 := ⟨_, rfl⟩
  have HX : Hid (∀ w, Calls Try.prog 7 #[.agg (suC x)] w fun e w' => e = .returned (.tuple #[bkV FX, .int .i64 200]) ∧ Below w.heap.size w w') := by
    have := sencode_no x hx hc
    rw [← hFX] at this
    exact this
  have HR : Hid (∀ w, Calls Try.prog 8 #[.agg (suC x)] w fun e w' => e = .returned (.tuple #[.string ⟨#[]⟩, .bool false]) ∧ Below w.heap.size w w') := rsencode_no x hx hc
  have HC : Hid (∀ w, Calls Try.prog 10 #[.agg (suC x)] w fun e w' => e = .returned (.int .i64 200) ∧ Below w.heap.size w w') := by
    have := scheck_any x hx
    rw [show scE x = 200 by unfold scE; rw [hc]; rfl] at this
    exact this
  have HZ : Hid (∀ W, (Op.equalIn 10000 33 (bkV FX) (bkV fun _ => 0)).run Try.prog W = .ok true W) := fun W => by
    rw [eq_bk 33 Try.underlying33 FX (fun _ => 0) W, decide_eq_true (fun _ _ => by rw [hFX])]
  clear hFX
  generalize sdV f = SV at *
  generalize sdE f = SE at *
  generalize sdOk f = OK at *
  clear hx hf hc
  unfold bkV at *
  have K0 : Hid (CK w ((w.alloc (.cells (suC x) 31)).alloc (.cells (va 256 (iv .u8 f)) 33)) x f) := ⟨below_new2 _ _ _, (Blk.new _ _ _).alloc _, Blk.new1 _ _ _ _⟩
  go_enter Try.func3, Try.ntmps3
  go_wp2_with fail
  generalize ((w.alloc (.cells (suC x) 31)).alloc (.cells (va 256 (iv .u8 f)) 33)) = w1 at *
  refine (HA.out _).mono ?_
  rintro e _ ⟨rfl, rfl⟩
  go_wp2_with (first | (refine wpList_load_rowg (by rfl) 31 _ (by rfl) (w.heap.size) (by rfl) 31 (suC (x)) (0, 0) _ (by exact K0.out.x) Try.underlying31 (by rfl) (sizeSup.trans (by rw [suC_size])) ?_; simp only [Act.put, List.setIfInBounds_toArray, List.set_cons_zero, List.set_cons_succ]) | fail)
  refine (HX.out _).mono ?_
  rintro e w2 ⟨rfl, hb2⟩
  have K1 : Hid (CK w w2 x f) := K0.out.below hb2
  clear hb2 K0 HA HX
  have n1 : Blk (w2.alloc (.cells (va 256 (iv .u8 fun _ => 0)) 33)) w2.heap.size 33 (va 256 (iv .u8 fun _ => 0)) := Blk.new _ _ _
  have K2 : Hid (CK w ((w2.alloc (.cells (va 256 (iv .u8 fun _ => 0)) 33)).setRow w2.heap.size (va 256 (iv .u8 FX))) x f) := K1.out.put _ _ _
  have c2 : Hid (Blk ((w2.alloc (.cells (va 256 (iv .u8 fun _ => 0)) 33)).setRow w2.heap.size (va 256 (iv .u8 FX))) w2.heap.size 33 (va 256 (iv .u8 FX))) := ck_new _ _ _ _
  go_wp2_with (first | (refine wpList_store_row (by rfl) 33 _ _ (by rfl) (w2.heap.size) (va 256 (iv .u8 (FX))) (by rfl) (by rfl) 33 (_) (by exact n1) (sizeBk.trans (by rw [va_size])) (by simp only [va_size]) (iv_one _ _ _) ?_; simp only [Act.put, List.setIfInBounds_toArray, List.set_cons_zero, List.set_cons_succ]) | (refine wpList_load_rowg (by rfl) 31 _ (by rfl) (w.heap.size) (by rfl) 31 (suC (x)) (0, 0) _ (by exact K2.out.x) Try.underlying31 (by rfl) (sizeSup.trans (by rw [suC_size])) ?_; simp only [Act.put, List.setIfInBounds_toArray, List.set_cons_zero, List.set_cons_succ]) | fail)
  clear n1 K1
  generalize ((w2.alloc (.cells (va 256 (iv .u8 fun _ => 0)) 33)).setRow w2.heap.size (va 256 (iv .u8 FX))) = v2 at *
  generalize w2.heap.size = gc at *
  refine (HG.out _).mono ?_
  rintro e w3 ⟨rfl, hb3⟩
  have K3 : Hid (CK w w3 x f) := K2.out.below hb3
  have c3 : Hid (Blk w3 gc 33 (va 256 (iv .u8 FX))) := c2.out.below hb3 c2.out.lt
  clear hb3 K2 c2 HG
  go_wp2_with fail
  refine (HR.out _).mono ?_
  rintro e w4 ⟨rfl, hb4⟩
  have K4 : Hid (CK w w4 x f) := K3.out.below hb4
  have c4 : Hid (Blk w4 gc 33 (va 256 (iv .u8 FX))) := c3.out.below hb4 c3.out.lt
  clear hb4 K3 c3 HR
  go_wp2_with (first | (refine wpList_load_rowg (by rfl) 31 _ (by rfl) (w.heap.size) (by rfl) 31 (suC (x)) (0, 0) _ (by exact K4.out.x) Try.underlying31 (by rfl) (sizeSup.trans (by rw [suC_size])) ?_; simp only [Act.put, List.setIfInBounds_toArray, List.set_cons_zero, List.set_cons_succ]) | fail)
  refine (HC.out _).mono ?_
  rintro e w5 ⟨rfl, hb5⟩
  have K5 : Hid (CK w w5 x f) := K4.out.below hb5
  have c5 : Blk w5 gc 33 (va 256 (iv .u8 FX)) := c4.out.below hb5 c4.out.lt
  clear hb5 K4 c4 HC
  have hq0 := HZ.out
  go_upto_region 7 with (first | (refine wpList_load_rowg (by rfl) 33 _ (by rfl) (gc) (by rfl) 33 (va 256 (iv .u8 (FX))) (0, 0) _ (by exact c5) Try.underlying33 (by rfl) (sizeBk.trans (by rw [va_size])) ?_; simp only [Act.put, List.setIfInBounds_toArray, List.set_cons_zero, List.set_cons_succ]) | (refine ck_build0 (by rfl) 33 (by rfl) (va 256 (iv .u8 fun _ => 0)) (by exact ck_zero) ?_; simp only [Act.put, List.setIfInBounds_toArray, List.set_cons_zero, List.set_cons_succ]) | fail)
  clear hq0 c5 HZ
  as_aux_lemma =>
    go_wp2_with (first | (refine wpList_load_rowg (by rfl) 33 _ (by rfl) (w.heap.size + 1) (by rfl) 33 (va 256 (iv .u8 (f))) (0, 0) _ (by exact K5.out.f) Try.underlying33 (by rfl) (sizeBk.trans (by rw [va_size])) ?_; simp only [Act.put, List.setIfInBounds_toArray, List.set_cons_zero, List.set_cons_succ]) | fail)
    refine (HB.out _).mono ?_
    rintro e w7 ⟨rfl, hb7⟩
    have K7 : Hid (CK w w7 x f) := K5.out.below hb7
    clear hb7 K5 HB
    have n1 : Blk (w7.alloc (.cells (suC su0) 31)) w7.heap.size 31 (suC su0) := Blk.new _ _ _
    have K8 : Hid (CK w ((w7.alloc (.cells (suC su0) 31)).setRow w7.heap.size (suC SV)) x f) := K7.out.put _ _ _
    have y8 : Hid (Blk ((w7.alloc (.cells (suC su0) 31)).setRow w7.heap.size (suC SV)) w7.heap.size 31 (suC SV)) := ck_new _ _ _ _
    have ht := ck_text K8.out.f
    generalize strN f 256 = TF at *
    go_wp2_with (first | (refine wpList_store_row (by rfl) 31 _ _ (by rfl) (w7.heap.size) (suC (SV)) (by rfl) (by rfl) 31 (_) (by exact n1) (sizeSup.trans (by rw [suC_size])) (by simp only [suC_size]) (suC_all _) ?_; simp only [Act.put, List.setIfInBounds_toArray, List.set_cons_zero, List.set_cons_succ]) | fail)
    clear n1 K7 ht
    generalize ((w7.alloc (.cells (suC su0) 31)).setRow w7.heap.size (suC SV)) = v8 at *
    generalize w7.heap.size = gy at *
    refine (HD.out _).mono ?_
    rintro e w8 ⟨rfl, hb8⟩
    have K9 : Hid (CK w w8 x f) := K8.out.below hb8
    have y9 : Hid (Blk w8 gy 31 (suC SV)) := y8.out.below hb8 y8.out.lt
    clear hb8 K8 y8 HD
    have n1 : Blk (w8.alloc (.cells (suC su0) 45)) w8.heap.size 45 (suC su0) := Blk.new _ _ _
    have K10 : Hid (CK w ((w8.alloc (.cells (suC su0) 45)).setRow w8.heap.size (suC SV)) x f) := K9.out.put _ _ _
    have y10 : Hid (Blk ((w8.alloc (.cells (suC su0) 45)).setRow w8.heap.size (suC SV)) gy 31 (suC SV)) := ck_put y9.out
    have z10 : Hid (Blk ((w8.alloc (.cells (suC su0) 45)).setRow w8.heap.size (suC SV)) w8.heap.size 45 (suC SV)) := ck_new _ _ _ _
    go_wp2_with (first | (refine wpList_store_row (by rfl) 45 _ _ (by rfl) (w8.heap.size) (suC (SV)) (by rfl) (by rfl) 45 (_) (by exact n1) (sizeRSup.trans (by rw [suC_size])) (by simp only [suC_size]) (suC_all _) ?_; simp only [Act.put, List.setIfInBounds_toArray, List.set_cons_zero, List.set_cons_succ]) | fail)
    clear n1 K9 y9
    generalize ((w8.alloc (.cells (suC su0) 45)).setRow w8.heap.size (suC SV)) = v10 at *
    generalize w8.heap.size = gz at *
    have hS0 : Hid (Blk v10.drew gy 31 (suC SV) ∧ Blk v10.drew gz 45 (suC SV) ∧ Below w.heap.size w v10.drew) := ⟨y10.out.drew, z10.out.drew, K10.out.b.drew⟩
    clear y10 z10 K10
    have hq := HQ.out
    cases OK
    · have e : SE = 200 := HSE.out.1 rfl
      subst e
      as_aux_lemma =>
        refine wp_region_partsS (fun U => Hid (Blk U gy 31 (suC SV) ∧ Blk U gz 45 (suC SV) ∧ Below w.heap.size w U)) [([], 0, true), ([], 2, true), ([], 1, false), ([], 3, false), ([4, 5, 7], 6, false), ([], 8, false), ([9, 10, 11, 12, 13], 14, false)] [15, 16, 17] [] (by kernel_rfl) (by kernel_rfl) hS0 (partsI_yield ?_)
        simp only [List.cons_append, List.nil_append, List.append_nil, List.filterMap_cons, List.filterMap_nil, List.getElem?_toArray, List.getElem?_cons_zero, List.getElem?_cons_succ]
        go_wp2_with fail
        first | (refine ⟨rfl, _, .agg (suC SV), rfl, kyields_load (by rfl) 31 _ (by rfl) (gy) 72 (suF SV) (by rfl) _ 31 (fun W hW => hW.out.1) Try.underlying31 rfl sizeSup, partsI_yield ?_⟩) | (refine ⟨rfl, .agg (suC SV), kyields_load (by rfl) 31 _ (by rfl) (gy) 72 (suF SV) (by rfl) _ 31 (fun W hW => hW.out.1) Try.underlying31 rfl sizeSup, partsI_yield ?_⟩)
        simp only [Act.put, List.setIfInBounds_toArray, List.set_cons_zero, List.set_cons_succ]
        simp only [List.cons_append, List.nil_append, List.append_nil, List.filterMap_cons, List.filterMap_nil, List.getElem?_toArray, List.getElem?_cons_zero, List.getElem?_cons_succ]
        go_wp2_with fail
        first | (refine ⟨rfl, _, .agg (suC SV), rfl, kyields_load (by rfl) 45 _ (by rfl) (gz) 72 (suF SV) (by rfl) _ 45 (fun W hW => hW.out.2.1) Try.underlying45 rfl sizeRSup, partsI_force ?_⟩) | (refine ⟨rfl, .agg (suC SV), kyields_load (by rfl) 45 _ (by rfl) (gz) 72 (suF SV) (by rfl) _ 45 (fun W hW => hW.out.2.1) Try.underlying45 rfl sizeRSup, partsI_force ?_⟩)
        simp only [Act.put, List.setIfInBounds_toArray, List.set_cons_zero, List.set_cons_succ]
        simp only [List.cons_append, List.nil_append, List.append_nil, List.filterMap_cons, List.filterMap_nil, List.getElem?_toArray, List.getElem?_cons_zero, List.getElem?_cons_succ]
        go_wp2_with fail
        refine (HG2.out _).mono ?_
        rintro e y0 ⟨rfl, hy0⟩
        have hS1 : Hid (Blk y0 gy 31 (suC SV) ∧ Blk y0 gz 45 (suC SV) ∧ Below w.heap.size w y0) := ⟨hS0.out.1.below hy0 hS0.out.1.lt, hS0.out.2.1.below hy0 hS0.out.2.1.lt, hS0.out.2.2.trans (hy0.mono hS0.out.2.2.size)⟩
        clear hy0 hS0 HG2
        go_wp2_with fail
        refine ⟨rfl, hS1, partsI_force ?_⟩
        simp only [List.cons_append, List.nil_append, List.append_nil, List.filterMap_cons, List.filterMap_nil, List.getElem?_toArray, List.getElem?_cons_zero, List.getElem?_cons_succ]
        go_wp2_with fail
        refine ⟨rfl, hS1, partsI_force ?_⟩
        simp only [List.cons_append, List.nil_append, List.append_nil, List.filterMap_cons, List.filterMap_nil, List.getElem?_toArray, List.getElem?_cons_zero, List.getElem?_cons_succ]
        go_wp2_with fail
        refine ⟨rfl, hS1, partsI_force ?_⟩
        simp only [List.cons_append, List.nil_append, List.append_nil, List.filterMap_cons, List.filterMap_nil, List.getElem?_toArray, List.getElem?_cons_zero, List.getElem?_cons_succ]
        go_wp2_with fail
        refine ⟨rfl, hS1, partsI_force ?_⟩
        simp only [List.cons_append, List.nil_append, List.append_nil, List.filterMap_cons, List.filterMap_nil, List.getElem?_toArray, List.getElem?_cons_zero, List.getElem?_cons_succ]
        go_wp2_with fail
        refine ⟨rfl, hS1, partsI_last ?_⟩
        simp only [List.cons_append, List.nil_append, List.append_nil, List.filterMap_cons, List.filterMap_nil, List.getElem?_toArray, List.getElem?_cons_zero, List.getElem?_cons_succ]
        go_wp2_with fail
        refine ⟨rfl, ?_⟩
        go_wp2_with fail
        go_ret
        exact ⟨rfl, hS1.out.2.2⟩
    · have e : SE = 0 := HSE.out.2 rfl
      subst e
      as_aux_lemma =>
        refine wp_region_partsS (fun U => Hid (Blk U gy 31 (suC SV) ∧ Blk U gz 45 (suC SV) ∧ Below w.heap.size w U)) [([], 0, true), ([], 2, true), ([], 1, false), ([], 3, false), ([4, 5, 7], 6, false), ([], 8, false), ([9, 10, 11, 12, 13], 14, false)] [15, 16, 17] [] (by kernel_rfl) (by kernel_rfl) hS0 (partsI_yield ?_)
        simp only [List.cons_append, List.nil_append, List.append_nil, List.filterMap_cons, List.filterMap_nil, List.getElem?_toArray, List.getElem?_cons_zero, List.getElem?_cons_succ]
        go_wp2_with fail
        first | (refine ⟨rfl, _, .agg (suC SV), rfl, kyields_load (by rfl) 31 _ (by rfl) (gy) 72 (suF SV) (by rfl) _ 31 (fun W hW => hW.out.1) Try.underlying31 rfl sizeSup, partsI_yield ?_⟩) | (refine ⟨rfl, .agg (suC SV), kyields_load (by rfl) 31 _ (by rfl) (gy) 72 (suF SV) (by rfl) _ 31 (fun W hW => hW.out.1) Try.underlying31 rfl sizeSup, partsI_yield ?_⟩)
        simp only [Act.put, List.setIfInBounds_toArray, List.set_cons_zero, List.set_cons_succ]
        simp only [List.cons_append, List.nil_append, List.append_nil, List.filterMap_cons, List.filterMap_nil, List.getElem?_toArray, List.getElem?_cons_zero, List.getElem?_cons_succ]
        go_wp2_with fail
        first | (refine ⟨rfl, _, .agg (suC SV), rfl, kyields_load (by rfl) 45 _ (by rfl) (gz) 72 (suF SV) (by rfl) _ 45 (fun W hW => hW.out.2.1) Try.underlying45 rfl sizeRSup, partsI_force ?_⟩) | (refine ⟨rfl, .agg (suC SV), kyields_load (by rfl) 45 _ (by rfl) (gz) 72 (suF SV) (by rfl) _ 45 (fun W hW => hW.out.2.1) Try.underlying45 rfl sizeRSup, partsI_force ?_⟩)
        simp only [Act.put, List.setIfInBounds_toArray, List.set_cons_zero, List.set_cons_succ]
        simp only [List.cons_append, List.nil_append, List.append_nil, List.filterMap_cons, List.filterMap_nil, List.getElem?_toArray, List.getElem?_cons_zero, List.getElem?_cons_succ]
        go_wp2_with fail
        refine (HG2.out _).mono ?_
        rintro e y0 ⟨rfl, hy0⟩
        have hS1 : Hid (Blk y0 gy 31 (suC SV) ∧ Blk y0 gz 45 (suC SV) ∧ Below w.heap.size w y0) := ⟨hS0.out.1.below hy0 hS0.out.1.lt, hS0.out.2.1.below hy0 hS0.out.2.1.lt, hS0.out.2.2.trans (hy0.mono hS0.out.2.2.size)⟩
        clear hy0 hS0 HG2
        go_wp2_with fail
        refine ⟨rfl, hS1, partsI_force ?_⟩
        simp only [List.cons_append, List.nil_append, List.append_nil, List.filterMap_cons, List.filterMap_nil, List.getElem?_toArray, List.getElem?_cons_zero, List.getElem?_cons_succ]
        go_wp2_with fail
        refine ⟨rfl, hS1, partsI_force ?_⟩
        simp only [List.cons_append, List.nil_append, List.append_nil, List.filterMap_cons, List.filterMap_nil, List.getElem?_toArray, List.getElem?_cons_zero, List.getElem?_cons_succ]
        go_wp2_with fail
        refine ⟨rfl, hS1, partsI_force ?_⟩
        simp only [List.cons_append, List.nil_append, List.append_nil, List.filterMap_cons, List.filterMap_nil, List.getElem?_toArray, List.getElem?_cons_zero, List.getElem?_cons_succ]
        go_wp2_with fail
        refine ⟨rfl, hS1, partsI_force ?_⟩
        simp only [List.cons_append, List.nil_append, List.append_nil, List.filterMap_cons, List.filterMap_nil, List.getElem?_toArray, List.getElem?_cons_zero, List.getElem?_cons_succ]
        go_wp2_with fail
        refine ⟨rfl, hS1, partsI_last ?_⟩
        simp only [List.cons_append, List.nil_append, List.append_nil, List.filterMap_cons, List.filterMap_nil, List.getElem?_toArray, List.getElem?_cons_zero, List.getElem?_cons_succ]
        go_wp2_with fail
        refine ⟨rfl, ?_⟩
        go_wp2_with fail
        go_ret
        exact ⟨rfl, hS1.out.2.2⟩
theorem superCodesLaw (x : Sup) (hx : SuW x) (f : Nat → Nat) (hf : ∀ i, f i < 256) (w : World) : Calls Try.prog 3 #[.agg (suC x), bkV f] w fun e w' => e = .returned (.bool true) ∧ Below w.heap.size w w' := by
  by_cases hc : sck x = true
  · exact superCodes_ok x hx f hf hc w
  · exact superCodes_no x hx f hf (Bool.eq_false_iff.2 hc) w
end Go.Proofs.Ytalnfphlhcojcaa
