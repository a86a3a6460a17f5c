/- SuperBack: the walk. -/
import Derived.Test.YtalnfphlhcojcaaHSuBack
import Derived.Test.YtalnfphlhcojcaaHSegsP
import Derived.Deep.DeepCutAuto
import Derived.Deep.Cut
import Derived.BigQuiet
import Derived.Deep.QuietTactic
import Derived.Handy

namespace Go.Proofs.Ytalnfphlhcojcaa
open Go Go.RowKit
set_option linter.unusedSimpArgs false
set_option linter.unusedVariables false
set_option maxRecDepth 20000
/-- what lies in the memory: two roots, a block -/
structure BK (w0 w : World) (x o : Sup) (f : Nat → Nat) : Prop where
  b : Below w0.heap.size w0 w
  x : Blk w w0.heap.size 31 (suC x)
  o : Blk w (w0.heap.size + 1) 31 (suC o)
  f : Blk w (w0.heap.size + 2) 33 (va 256 (iv .u8 f))
theorem BK.below {w0 w w' : World} {x o : Sup} {f : Nat → Nat} (e : BK w0 w x o f) (b : Below w.heap.size w w') : BK w0 w' x o f :=
  ⟨e.b.trans (b.mono e.b.size), e.x.below b e.x.lt, e.o.below b e.o.lt, e.f.below b e.f.lt⟩
theorem BK.dN {w0 w : World} {x o : Sup} {f : Nat → Nat} (e : BK w0 w x o f) (n : Nat) : BK w0 (w.drewN n) x o f := ⟨su_dN e.b n, e.x, e.o, e.f⟩
theorem BK.lt {w0 w : World} {x o : Sup} {f : Nat → Nat} (e : BK w0 w x o f) : w0.heap.size + 2 < w.heap.size := e.f.lt
/-- a block that is made and filled -/
theorem BK.put {w0 w : World} {x o : Sup} {f : Nat → Nat} (e : BK w0 w x o f) (t : TypeId) (c1 c2 : Array Value) : BK w0 ((w.alloc (.cells c1 t)).setRow w.heap.size c2) x o f :=
  ⟨below_setRow (e.b.alloc e.b.size _) e.b.size _, (e.x.alloc _).other _ (by have := e.lt; omega), (e.o.alloc _).other _ (by have := e.lt; omega), (e.f.alloc _).other _ (by have := e.lt; omega)⟩
theorem su_put {w : World} {g T t : Nat} {cs c1 c2 : Array Value} (h : Blk w g T cs) : Blk ((w.alloc (.cells c1 t)).setRow w.heap.size c2) g T cs := (h.alloc _).other _ (by have := h.lt; omega)
theorem su_new (w : World) (t : TypeId) (c1 c2 : Array Value) : Blk ((w.alloc (.cells c1 t)).setRow w.heap.size c2) w.heap.size t c2 := (Blk.new w t c1).set c2
theorem sbuilt_ref1 (a : Nat) : Try.prog.built 27 [(0, .int .u32 (a : Int))] = some (rfC (a, Vector.replicate 32 0)) := by kernel_rfl
theorem su_build1 {P : Program} {ops : Array Oper} {rest : List Oper} {o : Oper} {a : Act} {w : World} {Q : Exit → Act → World → Prop} (hg : o.guard = none) (t : TypeId) (x : Operand) (ho : o.op = .build t #[(0, x)]) (vx : Value) (hx : a.eval x = vx)
    (cells : Array Value) (hf : P.built t [(0, vx)] = some cells) (h : wpList P ops Q rest (a.put o.dst (.agg cells)) w) : wpList P ops Q (o :: rest) a w := by
  refine wpList_buildTo hg t _ ho o.dst rfl cells ?_ h
  have e : (Array.map (fun (x : Nat × Operand) => match x with | (i, x) => (i, a.eval x)) #[(0, x)]).toList = [(0, vx)] := by simp [hx]
  rw [e]
  exact hf
theorem su_build2g {P : Program} {ops : Array Oper} {rest : List Oper} {o : Oper} {a : Act} {w : World} {Q : Exit → Act → World → Prop} (hw : Region.wanted o (yielded ops a.tmps) = true) (t : TypeId) (x y : Operand) (ho : o.op = .build t #[(0, x), (1, y)]) (vx vy : Value) (hx : a.eval x = vx) (hy : a.eval y = vy)
    (cells : Array Value) (hf : P.built t [(0, vx), (1, vy)] = some cells) (h : wpList P ops Q rest (a.put o.dst (.agg cells)) w) : wpList P ops Q (o :: rest) a w :=
  wpList_step fun K hK => by
    rw [if_pos hw]
    have e : (Array.map (fun (x : Nat × Operand) => match x with | (i, x) => (i, a.eval x)) #[(0, x), (1, y)]).toList = [(0, vx), (1, vy)] := by simp [hx, hy]
    refine wp_build t _ ho (by rw [e, hf]; rfl) ?_
    rw [e, hf]
    exact hK _ _ h
theorem su_loadg {P : Program} {ops : Array Oper} {rest : List Oper} {op : Oper} {a : Act} {w : World} {Q : Exit → Act → World → Prop} (hw : Region.wanted op (yielded ops a.tmps) = true) (ty : TypeId) (x : Operand) (ho : op.op = .load ty x)
    (b o n : Nat) (f : Nat → Value) (hx : a.eval x = .pointer (some ⟨b, o, none⟩)) (d : TypeDesc) (hc : w.rangeAt b o ((List.range n).map f))
    (hu : P.underlying ty = some d) (hd : d.isRow = true) (hi : (P.info? ty).map (·.size) = some n)
    (h : wpList P ops Q rest (a.put op.dst (.agg (va n f))) w) : wpList P ops Q (op :: rest) a w :=
  wpList_step fun K hK => by
    rw [if_pos hw]
    exact wp_load_mid ty x ho b o hx _ d hc hu hd (hi.trans (by simp)) (hK _ _ h)
set_option maxRecDepth 100000 in
set_option maxHeartbeats 4000000 in
theorem superBackLaw (x o : Sup) (hx : SuW x) (ho : SuW o) (f : Nat → Nat) (hf : ∀ i, f i < 256) (w : World) : Calls Try.prog 5 #[.agg (suC x), .agg (suC o), bkV f] w fun e w' => e = .returned (.bool true) ∧ Below w.heap.size w w' := by
  have hz := zero_bk
  have hz2 := zero_sup
  have hzs : ∀ W : World, True := fun _ => trivial
  have HA : Hid (∀ w : World, Calls Try.prog 6 #[] w fun e w' => e = .returned (.bool true) ∧ w' = w) := awake20_any
  have HX : Hid (∀ w, Calls Try.prog 7 #[.agg (suC x)] w fun e w' => e = .returned (.tuple #[bkV (seF x), .int .i64 (scE x)]) ∧ Below w.heap.size w w') := senc_any x hx
  have HO : Hid (∀ w, Calls Try.prog 7 #[.agg (suC o)] w fun e w' => e = .returned (.tuple #[bkV (seF o), .int .i64 (scE o)]) ∧ Below w.heap.size w w') := senc_any o ho
  have HD : Hid (sck x = true → ∀ w, Calls Try.prog 11 #[bkV (seF x)] w fun e w' => e = .returned (.tuple #[.agg (suC x), .int .i64 0]) ∧ Below w.heap.size w w') := fun hc w => by
    have h := sd_back x hx hc
    have := sdecode_any (seF x) (seF_lt x hx) w
    unfold seF at this ⊢
    rw [if_pos hc] at this ⊢
    rwa [h.1, h.2] at this
  have HQ : Hid (sck x = true → sck o = true → ∀ W, (Op.equalIn 10000 33 (bkV (seF x)) (bkV (seF o))).run Try.prog W = .ok (decide (x = o)) W) := fun h1 h2 W => by
    have := eq_bk 33 Try.underlying33 (seF x) (seF o) W
    rw [this]
    unfold seF
    rw [if_pos h1, if_pos h2]
    refine congrArg (fun b => Result.ok b W) ?_
    rw [Bool.eq_iff_iff]
    simp only [decide_eq_true_eq]
    exact suB_inj x o hx ho h1 h2
  have HQ2 : Hid (∀ W, (Op.equalIn 10000 31 (.agg (suC x)) (.agg (suC o))).run Try.prog W = .ok (decide (x = o)) W) := eq_sup 9995 x o
  have HQ3 : Hid (∀ W, (Op.equalIn 10000 31 (.agg (suC x)) (.agg (suC x))).run Try.prog W = .ok true W) := fun W => by
    rw [eq_sup 9995 x x W, decide_eq_true rfl]
  have HB : Hid (∀ w, Calls Try.prog 11 #[bkV f] w fun e w' => e = .returned (.tuple #[.agg (suC (sdV f)), .int .i64 (sdE f)]) ∧ Below w.heap.size w w') := sdecode_any f hf
  have HS : Hid (sdE f = 0 → ∀ w, Calls Try.prog 7 #[.agg (suC (sdV f))] w fun e w' => e = .returned (.tuple #[bkV f, .int .i64 0]) ∧ Below w.heap.size w w') := fun h w => by
    have e : sdOk f = true := by
      unfold sdE at h
      by_cases hh : sdOk f = true
      · exact hh
      · rw [if_neg hh] at h
        cases h
    have e2 := e
    unfold sdOk at e2
    rw [Bool.and_eq_true] at e2
    have := sencode_ok (prR f) (prR_w f hf) e2.1 w
    rw [bkV_congr (of_decide_eq_true e2.2)] at this
    unfold sdV
    rw [if_pos e]
    exact this
  have HE3 : Hid (∀ W, (Op.equalIn 10000 33 (bkV f) (bkV f)).run Try.prog W = .ok true W) := fun W => by
    rw [eq_bk 33 Try.underlying33 f f W, decide_eq_true (fun _ _ => rfl)]
  have HC : Hid (∀ w, Calls Try.prog 10 #[.agg (suC x)] w fun e w' => e = .returned (.int .i64 (scE x)) ∧ Below w.heap.size w w') := scheck_any x hx
  have HF1 : Hid (∀ w, Calls Try.prog 17 #[.agg (suC x), .agg (slC (x.c, o.tr.1, Vector.replicate 32 0)), .int .i64 x.b] w fun e w' => e = .returned (.bool (fitS x x.c o.tr.1 x.b)) ∧ Below w.heap.size w w') := sfits_any x hx x.c o.tr.1 _ ho.ta x.b hx.b
  have HF2 : Hid (∀ w, Calls Try.prog 17 #[.agg (suC x), .agg (slC ((x.c + 1) % 18446744073709551616, o.tr.1, Vector.replicate 32 0)), .int .i64 x.b] w fun e w' => e = .returned (.bool false) ∧ Below w.heap.size w w') := fun w => by
    have := sfits_any x hx ((x.c + 1) % 18446744073709551616) o.tr.1 (Vector.replicate 32 0) ho.ta x.b hx.b w
    have hne : ¬ x.c = (x.c + 1) % 18446744073709551616 := by have := hx.c; omega
    rw [show fitS x ((x.c + 1) % 18446744073709551616) o.tr.1 x.b = false by unfold fitS; rw [decide_eq_false hne]; simp] at this
    exact this
  have HFC : Hid (fitS x x.c o.tr.1 x.b = true → scE x = 0) := fun h => by
    unfold fitS at h
    simp only [Bool.and_eq_true] at h
    unfold scE
    rw [if_pos h.1]
  have HXE : Hid (scE x = 0 → sck x = true) := fun h => by
    unfold scE at h
    by_cases hh : sck x = true
    · exact hh
    · rw [if_neg hh] at h
      cases h
  have HOE : Hid (scE o = 0 → sck o = true) := fun h => by
    unfold scE at h
    by_cases hh : sck o = true
    · exact hh
    · rw [if_neg hh] at h
      cases h
  have hcw : Hid (x.c < 18446744073709551616) := hx.c
  generalize seF x = FX at *
  generalize seF o = FO at *
  generalize scE x = EX at *
  generalize scE o = EO at *
  generalize sdV f = SV at *
  generalize sdE f = SE at *
  generalize fitS x x.c o.tr.1 x.b = FI at *
  clear hx ho hf
  unfold bkV at *
  have K0 : Hid (BK w (((w.alloc (.cells (suC x) 31)).alloc (.cells (suC o) 31)).alloc (.cells (va 256 (iv .u8 f)) 33)) x o f) := ⟨below_new3 _ _ _ _, ((Blk.new _ _ _).alloc _).alloc _, (Blk.new1 _ _ _ _).alloc _, Blk.new2 _ _ _ _ _⟩
  go_enter Try.func5, Try.ntmps5
  go_wp2_with fail
  generalize (((w.alloc (.cells (suC x) 31)).alloc (.cells (suC o) 31)).alloc (.cells (va 256 (iv .u8 f)) 33)) = w1 at *
  refine (HA.out _).mono ?_
  rintro e _ ⟨rfl, rfl⟩
  go_wp2_with (first | (refine wpList_load_rowg (by rfl) 31 _ (by rfl) (w.heap.size) (by rfl) 31 (suC (x)) (0, 0) _ (by exact K0.out.x) Try.underlying31 (by rfl) (sizeSup.trans (by rw [suC_size])) ?_; simp only [Act.put, List.setIfInBounds_toArray, List.set_cons_zero, List.set_cons_succ]) | fail)
  refine (HX.out _).mono ?_
  rintro e w2 ⟨rfl, hb2⟩
  have K1 : Hid (BK w w2 x o f) := K0.out.below hb2
  clear hb2 K0 HA HX
  have n1 : Blk (w2.alloc (.cells (va 256 (iv .u8 fun _ => 0)) 33)) w2.heap.size 33 (va 256 (iv .u8 fun _ => 0)) := Blk.new _ _ _
  have K2 : Hid (BK w ((w2.alloc (.cells (va 256 (iv .u8 fun _ => 0)) 33)).setRow w2.heap.size (va 256 (iv .u8 FX))) x o f) := K1.out.put _ _ _
  have c2 : Blk ((w2.alloc (.cells (va 256 (iv .u8 fun _ => 0)) 33)).setRow w2.heap.size (va 256 (iv .u8 FX))) w2.heap.size 33 (va 256 (iv .u8 FX)) := su_new _ _ _ _
  have hc0 : Hid (w.heap.size + 2 < w2.heap.size) := K1.out.lt
  go_wp2_with (first | (refine wpList_store_row (by rfl) 33 _ _ (by rfl) (w2.heap.size) (va 256 (iv .u8 (FX))) (by rfl) (by rfl) 33 (_) (by exact n1) (sizeBk.trans (by rw [va_size])) (by simp only [va_size]) (iv_one _ _ _) ?_; simp only [Act.put, List.setIfInBounds_toArray, List.set_cons_zero, List.set_cons_succ]) | (refine wpList_load_rowg (by rfl) 31 _ (by rfl) (w.heap.size + 1) (by rfl) 31 (suC (o)) (0, 0) _ (by exact K2.out.o) Try.underlying31 (by rfl) (sizeSup.trans (by rw [suC_size])) ?_; simp only [Act.put, List.setIfInBounds_toArray, List.set_cons_zero, List.set_cons_succ]) | fail)
  clear n1 K1
  generalize ((w2.alloc (.cells (va 256 (iv .u8 fun _ => 0)) 33)).setRow w2.heap.size (va 256 (iv .u8 FX))) = v2 at *
  generalize w2.heap.size = gc at *
  refine (HO.out _).mono ?_
  rintro e w3 ⟨rfl, hb3⟩
  have K3 : Hid (BK w w3 x o f) := K2.out.below hb3
  have c3 := c2.below hb3 c2.lt
  clear hb3 K2 HO c2
  have n1 : Blk (w3.alloc (.cells (va 256 (iv .u8 fun _ => 0)) 33)) w3.heap.size 33 (va 256 (iv .u8 fun _ => 0)) := Blk.new _ _ _
  have K4 : Hid (BK w ((w3.alloc (.cells (va 256 (iv .u8 fun _ => 0)) 33)).setRow w3.heap.size (va 256 (iv .u8 FO))) x o f) := K3.out.put _ _ _
  have c4 : Hid (Blk ((w3.alloc (.cells (va 256 (iv .u8 fun _ => 0)) 33)).setRow w3.heap.size (va 256 (iv .u8 FO))) gc 33 (va 256 (iv .u8 FX))) := su_put c3
  have d4 : Hid (Blk ((w3.alloc (.cells (va 256 (iv .u8 fun _ => 0)) 33)).setRow w3.heap.size (va 256 (iv .u8 FO))) w3.heap.size 33 (va 256 (iv .u8 FO))) := su_new _ _ _ _
  clear c3
  go_upto_if 31 with (first | (refine wpList_store_row (by rfl) 33 _ _ (by rfl) (w3.heap.size) (va 256 (iv .u8 (FO))) (by rfl) (by rfl) 33 (_) (by exact n1) (sizeBk.trans (by rw [va_size])) (by simp only [va_size]) (iv_one _ _ _) ?_; simp only [Act.put, List.setIfInBounds_toArray, List.set_cons_zero, List.set_cons_succ]) | fail)
  clear n1 K3
  generalize ((w3.alloc (.cells (va 256 (iv .u8 fun _ => 0)) 33)).setRow w3.heap.size (va 256 (iv .u8 FO))) = v4 at *
  generalize w3.heap.size = gd at *
  go_cut [6] (fun v wx => Hid (BK w wx x o f))
  case first =>
    by_cases hE : EX = 0
    · have hck := HXE.out hE
      have HD' : Hid (∀ w, Calls Try.prog 11 #[.agg (va 256 (iv .u8 FX))] w fun e w' => e = .returned (.tuple #[.agg (suC x), .int .i64 0]) ∧ Below w.heap.size w w') := HD.out hck
      have HQ' : Hid (sck o = true → ∀ W, (Op.equalIn 10000 33 (.agg (va 256 (iv .u8 FX))) (.agg (va 256 (iv .u8 FO)))).run Try.prog W = .ok (decide (x = o)) W) := HQ.out hck
      clear HD HQ hck HXE HFC HB HS HE3 HC HF1 HF2
      subst hE
      go_wp2_with (first | (refine wpList_load_rowg (by rfl) 33 _ (by rfl) (gc) (by rfl) 33 (va 256 (iv .u8 (FX))) (0, 0) _ (by exact c4.out) Try.underlying33 (by rfl) (sizeBk.trans (by rw [va_size])) ?_; simp only [Act.put, List.setIfInBounds_toArray, List.set_cons_zero, List.set_cons_succ]) | fail)
      refine (HD'.out _).mono ?_
      rintro e w5 ⟨rfl, hb5⟩
      have K5 : Hid (BK w w5 x o f) := K4.out.below hb5
      have c5 : Hid (Blk w5 gc 33 (va 256 (iv .u8 FX))) := c4.out.below hb5 c4.out.lt
      have d5 : Hid (Blk w5 gd 33 (va 256 (iv .u8 FO))) := d4.out.below hb5 d4.out.lt
      clear hb5 K4 c4 d4 HD'
      have n1 : Blk (w5.alloc (.cells (suC su0) 31)) w5.heap.size 31 (suC su0) := Blk.new _ _ _
      have K6 : Hid (BK w ((w5.alloc (.cells (suC su0) 31)).setRow w5.heap.size (suC x)) x o f) := K5.out.put _ _ _
      have c6 : Hid (Blk ((w5.alloc (.cells (suC su0) 31)).setRow w5.heap.size (suC x)) gc 33 (va 256 (iv .u8 FX))) := su_put c5.out
      have d6 : Hid (Blk ((w5.alloc (.cells (suC su0) 31)).setRow w5.heap.size (suC x)) gd 33 (va 256 (iv .u8 FO))) := su_put d5.out
      have y6 : Hid (Blk ((w5.alloc (.cells (suC su0) 31)).setRow w5.heap.size (suC x)) w5.heap.size 31 (suC x)) := su_new _ _ _ _
      have hq3 := HQ3.out
      clear K5 c5 d5
      go_upto_region 9 with (first | (refine wpList_store_row (by rfl) 31 _ _ (by rfl) (w5.heap.size) (suC (x)) (by rfl) (by rfl) 31 (_) (by exact n1) (sizeSup.trans (by rw [suC_size])) (by simp only [suC_size]) (suC_all _) ?_; simp only [Act.put, List.setIfInBounds_toArray, List.set_cons_zero, List.set_cons_succ]) | (refine wpList_load_rowg (by rfl) 31 _ (by rfl) (w5.heap.size) (by rfl) 31 (suC (x)) (0, 0) _ (by exact y6.out) Try.underlying31 (by rfl) (sizeSup.trans (by rw [suC_size])) ?_; simp only [Act.put, List.setIfInBounds_toArray, List.set_cons_zero, List.set_cons_succ]) | (refine wpList_load_rowg (by rfl) 31 _ (by rfl) (w.heap.size) (by rfl) 31 (suC (x)) (0, 0) _ (by exact K6.out.x) Try.underlying31 (by rfl) (sizeSup.trans (by rw [suC_size])) ?_; simp only [Act.put, List.setIfInBounds_toArray, List.set_cons_zero, List.set_cons_succ]) | fail)
      clear n1 hq3 HQ3
      generalize ((w5.alloc (.cells (suC su0) 31)).setRow w5.heap.size (suC x)) = v6 at *
      by_cases hO : EO = 0
      · have hq1 := HQ'.out (HOE.out hO)
        have hq2 := HQ2.out
        subst hO
        clear HQ' HQ2 HOE
        obtain ⟨xo, hxo⟩ : ∃ b, b = decide (x = o) := ⟨_, rfl⟩
        rw [← hxo] at hq1 hq2
        clear hxo
        have hSS : Hid (BK w v6.drew x o f ∧ Blk v6.drew gc 33 (va 256 (iv .u8 FX)) ∧ Blk v6.drew gd 33 (va 256 (iv .u8 FO))) := ⟨⟨K6.out.b.drew, K6.out.x.drew, K6.out.o.drew, K6.out.f.drew⟩, c6.out.drew, d6.out.drew⟩
        cases xo
        · refine wp_region_partsS (fun U => Hid (BK w U x o f ∧ Blk U gc 33 (va 256 (iv .u8 FX)) ∧ Blk U gd 33 (va 256 (iv .u8 FO)))) [([0], 1, false), ([2], 3, true), ([], 4, true), ([], 5, true), ([], 6, true), ([], 7, false), ([], 8, false), ([], 9, false)] [10] [] (by kernel_rfl) (by kernel_rfl) hSS (partsI_force ?_)
          simp only [List.cons_append, List.nil_append, List.append_nil, List.filterMap_cons, List.filterMap_nil, List.getElem?_toArray, List.getElem?_cons_zero, List.getElem?_cons_succ]
          go_wp2_with fail
          refine ⟨rfl, hSS, partsI_yield ?_⟩
          simp only [List.cons_append, List.nil_append, List.append_nil, List.filterMap_cons, List.filterMap_nil, List.getElem?_toArray, List.getElem?_cons_zero, List.getElem?_cons_succ]
          go_wp2_with fail
          refine ⟨rfl, _, .agg (va 256 (iv .u8 FX)), rfl, kyields_load (by rfl) 33 _ (by rfl) (gc) 256 (iv .u8 FX) (by rfl) _ 33 (fun W hW => hW.out.2.1) Try.underlying33 rfl sizeBk, partsI_yield ?_⟩
          simp only [Act.put, List.setIfInBounds_toArray, List.set_cons_zero, List.set_cons_succ]
          simp only [List.cons_append, List.nil_append, List.append_nil, List.filterMap_cons, List.filterMap_nil, List.getElem?_toArray, List.getElem?_cons_zero, List.getElem?_cons_succ]
          go_wp2_with fail
          refine ⟨rfl, _, .agg (va 256 (iv .u8 FO)), rfl, kyields_load (by rfl) 33 _ (by rfl) (gd) 256 (iv .u8 FO) (by rfl) _ 33 (fun W hW => hW.out.2.2) Try.underlying33 rfl sizeBk, partsI_yield ?_⟩
          simp only [Act.put, List.setIfInBounds_toArray, List.set_cons_zero, List.set_cons_succ]
          simp only [List.cons_append, List.nil_append, List.append_nil, List.filterMap_cons, List.filterMap_nil, List.getElem?_toArray, List.getElem?_cons_zero, List.getElem?_cons_succ]
          go_wp2_with fail
          refine ⟨rfl, _, .bool false, rfl, Or.inl ⟨by rfl, fun W hW => by go_simp⟩, partsI_yield ?_⟩
          simp only [Act.put, List.setIfInBounds_toArray, List.set_cons_zero, List.set_cons_succ]
          simp only [List.cons_append, List.nil_append, List.append_nil, List.filterMap_cons, List.filterMap_nil, List.getElem?_toArray, List.getElem?_cons_zero, List.getElem?_cons_succ]
          go_wp2_with fail
          refine ⟨rfl, _, .agg (suC x), rfl, kyields_load (by rfl) 31 _ (by rfl) (w.heap.size) 72 (suF x) (by rfl) _ 31 (fun W hW => hW.out.1.x) Try.underlying31 rfl sizeSup, partsI_force ?_⟩
          simp only [Act.put, List.setIfInBounds_toArray, List.set_cons_zero, List.set_cons_succ]
          simp only [List.cons_append, List.nil_append, List.append_nil, List.filterMap_cons, List.filterMap_nil, List.getElem?_toArray, List.getElem?_cons_zero, List.getElem?_cons_succ]
          refine wpList_load_rowg (by rfl) 31 _ (by rfl) (w.heap.size + 1) (by rfl) 31 (suC (o)) (0, 0) _ (by exact hSS.out.1.o) Try.underlying31 (by rfl) (sizeSup.trans (by rw [suC_size])) ?_
          simp only [Act.put, List.setIfInBounds_toArray, List.set_cons_zero, List.set_cons_succ]
          go_wp2_with fail
          refine ⟨rfl, hSS, partsI_force ?_⟩
          simp only [List.cons_append, List.nil_append, List.append_nil, List.filterMap_cons, List.filterMap_nil, List.getElem?_toArray, List.getElem?_cons_zero, List.getElem?_cons_succ]
          go_wp2_with fail
          refine ⟨rfl, hSS, partsI_force ?_⟩
          simp only [List.cons_append, List.nil_append, List.append_nil, List.filterMap_cons, List.filterMap_nil, List.getElem?_toArray, List.getElem?_cons_zero, List.getElem?_cons_succ]
          go_wp2_with fail
          refine ⟨rfl, hSS, partsI_last ?_⟩
          simp only [List.cons_append, List.nil_append, List.append_nil, List.filterMap_cons, List.filterMap_nil, List.getElem?_toArray, List.getElem?_cons_zero, List.getElem?_cons_succ]
          go_wp2_with fail
          refine ⟨rfl, ?_⟩
          go_wp2_with fail
          go_meet
          exact hSS.out.1
        · refine wp_region_partsS (fun U => Hid (BK w U x o f ∧ Blk U gc 33 (va 256 (iv .u8 FX)) ∧ Blk U gd 33 (va 256 (iv .u8 FO)))) [([0], 1, false), ([2], 3, true), ([], 4, true), ([], 5, true), ([], 6, true), ([], 7, false), ([], 8, false), ([], 9, false)] [10] [] (by kernel_rfl) (by kernel_rfl) hSS (partsI_force ?_)
          simp only [List.cons_append, List.nil_append, List.append_nil, List.filterMap_cons, List.filterMap_nil, List.getElem?_toArray, List.getElem?_cons_zero, List.getElem?_cons_succ]
          go_wp2_with fail
          refine ⟨rfl, hSS, partsI_yield ?_⟩
          simp only [List.cons_append, List.nil_append, List.append_nil, List.filterMap_cons, List.filterMap_nil, List.getElem?_toArray, List.getElem?_cons_zero, List.getElem?_cons_succ]
          go_wp2_with fail
          refine ⟨rfl, _, .agg (va 256 (iv .u8 FX)), rfl, kyields_load (by rfl) 33 _ (by rfl) (gc) 256 (iv .u8 FX) (by rfl) _ 33 (fun W hW => hW.out.2.1) Try.underlying33 rfl sizeBk, partsI_yield ?_⟩
          simp only [Act.put, List.setIfInBounds_toArray, List.set_cons_zero, List.set_cons_succ]
          simp only [List.cons_append, List.nil_append, List.append_nil, List.filterMap_cons, List.filterMap_nil, List.getElem?_toArray, List.getElem?_cons_zero, List.getElem?_cons_succ]
          go_wp2_with fail
          refine ⟨rfl, _, .agg (va 256 (iv .u8 FO)), rfl, kyields_load (by rfl) 33 _ (by rfl) (gd) 256 (iv .u8 FO) (by rfl) _ 33 (fun W hW => hW.out.2.2) Try.underlying33 rfl sizeBk, partsI_yield ?_⟩
          simp only [Act.put, List.setIfInBounds_toArray, List.set_cons_zero, List.set_cons_succ]
          simp only [List.cons_append, List.nil_append, List.append_nil, List.filterMap_cons, List.filterMap_nil, List.getElem?_toArray, List.getElem?_cons_zero, List.getElem?_cons_succ]
          go_wp2_with fail
          refine ⟨rfl, _, .bool true, rfl, Or.inl ⟨by rfl, fun W hW => by go_simp⟩, partsI_yield ?_⟩
          simp only [Act.put, List.setIfInBounds_toArray, List.set_cons_zero, List.set_cons_succ]
          simp only [List.cons_append, List.nil_append, List.append_nil, List.filterMap_cons, List.filterMap_nil, List.getElem?_toArray, List.getElem?_cons_zero, List.getElem?_cons_succ]
          go_wp2_with fail
          refine ⟨rfl, _, .agg (suC x), rfl, kyields_load (by rfl) 31 _ (by rfl) (w.heap.size) 72 (suF x) (by rfl) _ 31 (fun W hW => hW.out.1.x) Try.underlying31 rfl sizeSup, partsI_force ?_⟩
          simp only [Act.put, List.setIfInBounds_toArray, List.set_cons_zero, List.set_cons_succ]
          simp only [List.cons_append, List.nil_append, List.append_nil, List.filterMap_cons, List.filterMap_nil, List.getElem?_toArray, List.getElem?_cons_zero, List.getElem?_cons_succ]
          refine wpList_load_rowg (by rfl) 31 _ (by rfl) (w.heap.size + 1) (by rfl) 31 (suC (o)) (0, 0) _ (by exact hSS.out.1.o) Try.underlying31 (by rfl) (sizeSup.trans (by rw [suC_size])) ?_
          simp only [Act.put, List.setIfInBounds_toArray, List.set_cons_zero, List.set_cons_succ]
          go_wp2_with fail
          refine ⟨rfl, hSS, partsI_force ?_⟩
          simp only [List.cons_append, List.nil_append, List.append_nil, List.filterMap_cons, List.filterMap_nil, List.getElem?_toArray, List.getElem?_cons_zero, List.getElem?_cons_succ]
          go_wp2_with fail
          refine ⟨rfl, hSS, partsI_force ?_⟩
          simp only [List.cons_append, List.nil_append, List.append_nil, List.filterMap_cons, List.filterMap_nil, List.getElem?_toArray, List.getElem?_cons_zero, List.getElem?_cons_succ]
          go_wp2_with fail
          refine ⟨rfl, hSS, partsI_last ?_⟩
          simp only [List.cons_append, List.nil_append, List.append_nil, List.filterMap_cons, List.filterMap_nil, List.getElem?_toArray, List.getElem?_cons_zero, List.getElem?_cons_succ]
          go_wp2_with fail
          refine ⟨rfl, ?_⟩
          go_wp2_with fail
          go_meet
          exact hSS.out.1
      · clear HQ' HQ2 HOE
        go_quiet (fail)
        go_wp2_with fail
        go_meet
        exact K6.out.dN _
    · clear HD HQ HXE HFC HB HS HE3 HC HF1 HF2
      go_wp2_with fail
      go_meet
      exact K4.out
  case rest =>
    rename World => v5
    have K5 := hcut
    clear hcut K4 c4 d4 HD HQ HQ2 HQ3 HXE HOE
    go_wp2_with (first | (refine wpList_load_rowg (by rfl) 33 _ (by rfl) (w.heap.size + 2) (by rfl) 33 (va 256 (iv .u8 (f))) (0, 0) _ (by exact K5.out.f) Try.underlying33 (by rfl) (sizeBk.trans (by rw [va_size])) ?_; simp only [Act.put, List.setIfInBounds_toArray, List.set_cons_zero, List.set_cons_succ]) | fail)
    refine (HB.out _).mono ?_
    rintro e w6 ⟨rfl, hb6⟩
    have K6 : Hid (BK w w6 x o f) := K5.out.below hb6
    clear hb6 K5 HB
    have n1 : Blk (w6.alloc (.cells (suC su0) 31)) w6.heap.size 31 (suC su0) := Blk.new _ _ _
    have K7 : Hid (BK w ((w6.alloc (.cells (suC su0) 31)).setRow w6.heap.size (suC SV)) x o f) := K6.out.put _ _ _
    have y7 : Hid (Blk ((w6.alloc (.cells (suC su0) 31)).setRow w6.heap.size (suC SV)) w6.heap.size 31 (suC SV)) := su_new _ _ _ _
    go_upto_if 61 with (first | (refine wpList_store_row (by rfl) 31 _ _ (by rfl) (w6.heap.size) (suC (SV)) (by rfl) (by rfl) 31 (_) (by exact n1) (sizeSup.trans (by rw [suC_size])) (by simp only [suC_size]) (suC_all _) ?_; simp only [Act.put, List.setIfInBounds_toArray, List.set_cons_zero, List.set_cons_succ]) | fail)
    clear n1 K6
    generalize ((w6.alloc (.cells (suC su0) 31)).setRow w6.heap.size (suC SV)) = v7 at *
    generalize w6.heap.size = gy at *
    go_cut [6] (fun v wx => Hid (BK w wx x o f))
    case first =>
      by_cases hE : SE = 0
      · have HS' : Hid (∀ w, Calls Try.prog 7 #[.agg (suC SV)] w fun e w' => e = .returned (.tuple #[.agg (va 256 (iv .u8 f)), .int .i64 0]) ∧ Below w.heap.size w w') := HS.out hE
        clear HS HFC HC HF1 HF2
        subst hE
        go_wp2_with (first | (refine wpList_load_rowg (by rfl) 31 _ (by rfl) (gy) (by rfl) 31 (suC (SV)) (0, 0) _ (by exact y7.out) Try.underlying31 (by rfl) (sizeSup.trans (by rw [suC_size])) ?_; simp only [Act.put, List.setIfInBounds_toArray, List.set_cons_zero, List.set_cons_succ]) | fail)
        refine (HS'.out _).mono ?_
        rintro e w8 ⟨rfl, hb8⟩
        have K8 : Hid (BK w w8 x o f) := K7.out.below hb8
        clear hb8 K7 HS' y7
        have n1 : Blk (w8.alloc (.cells (va 256 (iv .u8 fun _ => 0)) 33)) w8.heap.size 33 (va 256 (iv .u8 fun _ => 0)) := Blk.new _ _ _
        have K9 : Hid (BK w ((w8.alloc (.cells (va 256 (iv .u8 fun _ => 0)) 33)).setRow w8.heap.size (va 256 (iv .u8 f))) x o f) := K8.out.put _ _ _
        have y9 : Hid (Blk ((w8.alloc (.cells (va 256 (iv .u8 fun _ => 0)) 33)).setRow w8.heap.size (va 256 (iv .u8 f))) w8.heap.size 33 (va 256 (iv .u8 f))) := su_new _ _ _ _
        have hq3 := HE3.out
        clear K8
        go_wp2_with (first | (refine wpList_store_row (by rfl) 33 _ _ (by rfl) (w8.heap.size) (va 256 (iv .u8 (f))) (by rfl) (by rfl) 33 (_) (by exact n1) (sizeBk.trans (by rw [va_size])) (by simp only [va_size]) (iv_one _ _ _) ?_; simp only [Act.put, List.setIfInBounds_toArray, List.set_cons_zero, List.set_cons_succ]) | (refine wpList_load_rowg (by rfl) 33 _ (by rfl) (w8.heap.size) (by rfl) 33 (va 256 (iv .u8 (f))) (0, 0) _ (by exact y9.out) Try.underlying33 (by rfl) (sizeBk.trans (by rw [va_size])) ?_; simp only [Act.put, List.setIfInBounds_toArray, List.set_cons_zero, List.set_cons_succ]) | (refine wpList_load_rowg (by rfl) 33 _ (by rfl) (w.heap.size + 2) (by rfl) 33 (va 256 (iv .u8 (f))) (0, 0) _ (by exact K9.out.f) Try.underlying33 (by rfl) (sizeBk.trans (by rw [va_size])) ?_; simp only [Act.put, List.setIfInBounds_toArray, List.set_cons_zero, List.set_cons_succ]) | fail)
        go_meet
        exact K9.out
      · clear HS HFC HC HF1 HF2
        go_wp2_with fail
        go_meet
        exact K7.out
    case rest =>
      rename World => v8
      have K8 := hcut
      clear hcut K7 y7 HS HE3
      have hzs := zero_slot
      have c1 := sup_c1 K8.out.x
      have c3 := sup_c3 K8.out.o
      have n1 : Blk (v8.alloc (.cells (slC sl0) 55)) v8.heap.size 55 (slC sl0) := Blk.new _ _ _
      have K9 : Hid (BK w ((v8.alloc (.cells (slC sl0) 55)).setRow v8.heap.size (slC (x.c, o.tr.1, Vector.replicate 32 0))) x o f) := K8.out.put _ _ _
      have y9 : Hid (Blk ((v8.alloc (.cells (slC sl0) 55)).setRow v8.heap.size (slC (x.c, o.tr.1, Vector.replicate 32 0))) v8.heap.size 55 (slC (x.c, o.tr.1, Vector.replicate 32 0))) := su_new _ _ _ _
      have c0 := sup_c0 K9.out.x
      go_wp2_with (first
        | (refine su_build1 (by rfl) 27 _ (by rfl) (.int .u32 ((o.tr.1 : Nat) : Int)) (by rfl) (rfC (o.tr.1, Vector.replicate 32 0)) (by exact sbuilt_ref1 _) ?_; simp only [Act.put, List.setIfInBounds_toArray, List.set_cons_zero, List.set_cons_succ])
        | (refine su_build2 (by rfl) 55 _ _ (by rfl) (.int .u64 ((x.c : Nat) : Int)) (.agg (rfC (o.tr.1, Vector.replicate 32 0))) (by rfl) (by rfl) (slC (x.c, o.tr.1, Vector.replicate 32 0)) (by exact built_slot _ _ _) ?_; simp only [Act.put, List.setIfInBounds_toArray, List.set_cons_zero, List.set_cons_succ])
        | (refine wpList_store_row (by rfl) 55 _ _ (by rfl) (v8.heap.size) (slC (x.c, o.tr.1, Vector.replicate 32 0)) (by rfl) (by rfl) 55 (_) (by exact n1) (sizeSlot.trans (by rw [slC_size])) (by simp only [slC_size]) (slC_all _) ?_; simp only [Act.put, List.setIfInBounds_toArray, List.set_cons_zero, List.set_cons_succ])
        | (refine wpList_load_rowg (by rfl) 31 _ (by rfl) (w.heap.size) (by rfl) 31 (suC (x)) (0, 0) _ (by exact K9.out.x) Try.underlying31 (by rfl) (sizeSup.trans (by rw [suC_size])) ?_; simp only [Act.put, List.setIfInBounds_toArray, List.set_cons_zero, List.set_cons_succ])
        | (refine wpList_load_rowg (by rfl) 55 _ (by rfl) (v8.heap.size) (by rfl) 55 (slC (x.c, o.tr.1, Vector.replicate 32 0)) (0, 0) _ (by exact y9.out) Try.underlying55 (by rfl) (sizeSlot.trans (by rw [slC_size])) ?_; simp only [Act.put, List.setIfInBounds_toArray, List.set_cons_zero, List.set_cons_succ])
        | fail)
      clear n1 K8 c1 c3 c0
      generalize ((v8.alloc (.cells (slC sl0) 55)).setRow v8.heap.size (slC (x.c, o.tr.1, Vector.replicate 32 0))) = v9 at *
      generalize v8.heap.size = gs at *
      refine (HF1.out _).mono ?_
      rintro e w10 ⟨rfl, hb10⟩
      have K10 : Hid (BK w w10 x o f) := K9.out.below hb10
      have y10 : Hid (Blk w10 gs 55 (slC (x.c, o.tr.1, Vector.replicate 32 0))) := y9.out.below hb10 y9.out.lt
      clear hb10 K9 y9 HF1
      cases FI
      · go_wp2_with fail
        go_ret
        exact ⟨rfl, K10.out.b⟩
      · have hE : EX = 0 := HFC.out rfl
        subst hE
        go_wp2_with (first | (refine wpList_load_rowg (by rfl) 31 _ (by rfl) (w.heap.size) (by rfl) 31 (suC (x)) (0, 0) _ (by exact K10.out.x) Try.underlying31 (by rfl) (sizeSup.trans (by rw [suC_size])) ?_; simp only [Act.put, List.setIfInBounds_toArray, List.set_cons_zero, List.set_cons_succ]) | fail)
        refine (HC.out _).mono ?_
        rintro e w11 ⟨rfl, hb11⟩
        have K11 : Hid (BK w w11 x o f) := K10.out.below hb11
        have y11 : Hid (Blk w11 gs 55 (slC (x.c, o.tr.1, Vector.replicate 32 0))) := y10.out.below hb11 y10.out.lt
        clear hb11 K10 y10 HC
        have c0 := sup_c0 K11.out.x
        have c1 := sup_c1 K11.out.x
        obtain ⟨n2, hn2⟩ : ∃ n2, n2 = (x.c + 1) % 18446744073709551616 := ⟨_, rfl⟩
        rw [← hn2] at HF2
        have hcw2 : IntKind.u64.wrap ((x.c : Int) + 1) = (n2 : Int) := by
          rw [IntKind.wrap_u64]
          omega
        clear hn2
        have rr : w11.rangeAt gs 1 ((List.range 33).map (rfF o.tr.1 (Vector.replicate 32 0))) := by
          have q := World.rangeAt_of_block (b := gs) y11.out 1 33
          rwa [show (slC (x.c, o.tr.1, Vector.replicate 32 0)).extract 1 (1 + 33) = va 33 (rfF o.tr.1 (Vector.replicate 32 0)) by kernel_rfl, va_toList] at q
        go_wp2_with (first
          | (refine wpList_load_rowg (by rfl) 31 _ (by rfl) (w.heap.size) (by rfl) 31 (suC (x)) (0, 0) _ (by exact K11.out.x) Try.underlying31 (by rfl) (sizeSup.trans (by rw [suC_size])) ?_; simp only [Act.put, List.setIfInBounds_toArray, List.set_cons_zero, List.set_cons_succ])
          | (refine su_loadg (by rfl) 27 _ (by rfl) (gs) (1) 33 (rfF o.tr.1 (Vector.replicate 32 0)) (by rfl) _ (by exact rr) Try.underlying27 rfl slSizeRef ?_; simp only [Act.put, List.setIfInBounds_toArray, List.set_cons_zero, List.set_cons_succ])
          | (refine su_build2g (by rfl) 55 _ _ (by rfl) (.int .u64 (n2 : Int)) (.agg (rfC (o.tr.1, Vector.replicate 32 0))) (by rfl) (by rfl) (slC (n2, o.tr.1, Vector.replicate 32 0)) (by exact built_slot _ _ _) ?_; simp only [Act.put, List.setIfInBounds_toArray, List.set_cons_zero, List.set_cons_succ])
          | fail)
        refine (HF2.out _).mono ?_
        rintro e w12 ⟨rfl, hb12⟩
        go_wp2_with fail
        go_ret
        exact ⟨rfl, (K11.out.below hb12).b⟩
end Go.Proofs.Ytalnfphlhcojcaa
