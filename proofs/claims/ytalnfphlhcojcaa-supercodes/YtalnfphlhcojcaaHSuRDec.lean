/- The document's Decode of roots. -/
import Derived.Test.YtalnfphlhcojcaaHSuRTree
import Derived.Test.YtalnfphlhcojcaaHIoTake
import Derived.Deep.DeepCutAuto
import Derived.Deep.Cut
import Derived.Handy

namespace Go.Proofs.Ytalnfphlhcojcaa
open Go Go.RowKit
set_option linter.unusedSimpArgs false
set_option linter.unusedVariables false
set_option maxRecDepth 20000
theorem su_neT {a b : ByteArray} (h : ¬ a = b) : (a.toList == b.toList) = false := by
  rw [ByteArray.toList_eq, ByteArray.toList_eq]
  refine Bool.eq_false_iff.2 fun e => h ?_
  exact ByteArray.ext (Array.toList_inj.mp (eq_of_beq e))
/-- the root that a text says -/
def prS (s : ByteArray) : Sup := ⟨((at4 s 8 : Nat) : Int), at8 s 16, ((at4 s 24 : Nat) : Int), decR s 32, ((at4 s 28 : Nat) : Int), ((at4 s 68 : Nat) : Int), decR s 72, ((at4 s 108 : Nat) : Int)⟩
/-- what lies in the memory: the result -/
def DS (w U : World) : Prop := Blk U w.heap.size 45 (suC su0) ∧ Below w.heap.size w U
/-- and the root that is filled -/
def DA (w U : World) (g : Nat) : Prop := Blk U g 45 (suC su0) ∧ w.heap.size < g
theorem DS.below {w U V : World} (h : DS w U) (b : Below U.heap.size U V) : DS w V := ⟨h.1.below b h.1.lt, h.2.trans (b.mono h.2.size)⟩
theorem DA.below {w U V : World} {g : Nat} (h : DA w U g) (b : Below U.heap.size U V) : DA w V g := ⟨h.1.below b h.1.lt, h.2⟩
theorem DS.new {w U : World} (h : DS w U) : DS w (U.alloc (.cells (suC su0) 45)) ∧ DA w (U.alloc (.cells (suC su0) 45)) U.heap.size := ⟨⟨h.1.alloc _, h.2.alloc h.2.size _⟩, Blk.new _ _ _, h.1.lt⟩
theorem DS.fill {w U : World} {g : Nat} (h : DS w U) (k : DA w U g) (c : Array Value) : DS w (U.setRow g c) ∧ Blk (U.setRow g c) g 45 c := ⟨⟨h.1.other _ (by have := k.2; omega), below_setRow h.2 (Nat.le_of_lt k.2) _⟩, k.1.set _⟩
set_option maxRecDepth 100000 in
set_option maxHeartbeats 4000000 in
theorem rsdecode_no (s : ByteArray) (hs : s.size = 256) (hw : SuW (prS s)) (hc : sck (prS s) = false) (w : World) : Calls Try.prog 12 #[.string s] w fun e w' => e = .returned (.tuple #[.agg (suC su0), .bool false]) ∧ Below w.heap.size w w' := by
  have hz := zero_rsup
  have C8 : Hid (∀ w, Calls Try.prog 32 #[.string (s.extract 8 12)] w fun e w' => e = .returned (.int .u64 (prS s).b) ∧ w' = w) := sval4 s 8 12 rfl (by omega)
  have C16 : Hid (∀ w, Calls Try.prog 32 #[.string (s.extract 16 24)] w fun e w' => e = .returned (.int .u64 ((prS s).c : Int)) ∧ w' = w) := sval8 s 16 24 rfl (by omega)
  have C28 : Hid (∀ w, Calls Try.prog 32 #[.string (s.extract 28 32)] w fun e w' => e = .returned (.int .u64 (prS s).n) ∧ w' = w) := sval4 s 28 32 rfl (by omega)
  have C108 : Hid (∀ w, Calls Try.prog 32 #[.string (s.extract 108 112)] w fun e w' => e = .returned (.int .u64 (prS s).u) ∧ w' = w) := sval4 s 108 112 rfl (by omega)
  have T24 : Hid (∀ w, Calls Try.prog 33 #[.string s, .int .i64 24, .int .i64 32] w fun e w' => e = .returned (.agg (tiC (prS s).th (prS s).tr)) ∧ Below w.heap.size w w') := rtree24 s hs
  have T68 : Hid (∀ w, Calls Try.prog 33 #[.string s, .int .i64 68, .int .i64 72] w fun e w' => e = .returned (.agg (tiC (prS s).mh (prS s).mr)) ∧ Below w.heap.size w w') := rtree68 s hs
  have v1 : IntKind.i64.wrap (prS s).b = (prS s).b := by show IntKind.i64.wrap ((at4 s 8 : Nat) : Int) = ((at4 s 8 : Nat) : Int); have := at4_lt s 8; rw [IntKind.wrap_i64]; omega
  have v2 : IntKind.i64.wrap (prS s).n = (prS s).n := by show IntKind.i64.wrap ((at4 s 28 : Nat) : Int) = ((at4 s 28 : Nat) : Int); have := at4_lt s 28; rw [IntKind.wrap_i64]; omega
  have v3 : IntKind.i64.wrap (prS s).u = (prS s).u := by show IntKind.i64.wrap ((at4 s 108 : Nat) : Int) = ((at4 s 108 : Nat) : Int); have := at4_lt s 108; rw [IntKind.wrap_i64]; omega
  have hbs := sbuilt_rsup (prS s)
  have HE : Hid (∀ w, Calls Try.prog 8 #[.agg (suC (prS s))] w fun e w' => e = .returned (.tuple #[.string ⟨#[]⟩, .bool false]) ∧ Below w.heap.size w w') := rsencode_no (prS s) hw hc
  clear hw hc
  generalize prS s = X at *
  have E : Hid (DS w (w.alloc (.cells (suC su0) 45))) := ⟨Blk.new _ _ _, below_new1 _ _⟩
  go_enter Try.func12, Try.ntmps12
  go_wp2_with fail
  generalize (w.alloc (.cells (suC su0) 45)) = v at *
  go_cut [4] (fun u wx => ∃ g, u = .pointer (some ⟨g, 0, none⟩) ∧ Hid (DS w wx) ∧ Hid (Blk wx g 45 (suC X)) ∧ Hid (w.heap.size < g))
  case first =>
    have E0 : Hid (DS w v.drew) := ⟨E.out.1.drew, E.out.2.drew⟩
    clear E
    refine wp_region_plan (fun U => Hid (DS w U)) (.yield [0, 4, 7, 9, 13, 15] 1 (.yield [] 5 (.yield [] 10 (.yield [] 16 (.fork 2 20 (.yield [] 3 (.fork 6 20 (.fork 8 20 (.fork 11 20 (.yield [] 12 (.fork 14 20 (.fork 17 20 (.yield [] 18 (.fork 19 20 (.force [] 20 (.force [] 21 (.fin []))) (.force [] 19 (.force [] 21 (.fin []))))) (.force [] 17 (.yield [] 18 (.force [] 19 (.force [] 21 (.fin [])))))) (.force [] 14 (.force [] 17 (.yield [] 18 (.force [] 19 (.force [] 21 (.fin [])))))))) (.force [] 11 (.yield [] 12 (.force [] 14 (.force [] 17 (.yield [] 18 (.force [] 19 (.force [] 21 (.fin []))))))))) (.force [] 8 (.force [] 11 (.yield [] 12 (.force [] 14 (.force [] 17 (.yield [] 18 (.force [] 19 (.force [] 21 (.fin [])))))))))) (.force [] 6 (.force [] 8 (.force [] 11 (.yield [] 12 (.force [] 14 (.force [] 17 (.yield [] 18 (.force [] 19 (.force [] 21 (.fin [])))))))))))) (.force [] 2 (.yield [] 3 (.force [] 6 (.force [] 8 (.force [] 11 (.yield [] 12 (.force [] 14 (.force [] 17 (.yield [] 18 (.force [] 19 (.force [] 21 (.fin []))))))))))))))))) (by kernel_rfl) (by kernel_rfl) E0 (plan_yield ?_)
    generalize v.drew = vd at *
    simp only [List.cons_append, List.nil_append, List.append_nil, List.filterMap_cons, List.filterMap_nil, List.getElem?_toArray, List.getElem?_cons_zero, List.getElem?_cons_succ]
    go_wp2_with fail
    refine ⟨rfl, _, .string (s.extract 8 12), rfl, Or.inl ⟨by rfl, fun W hW => by go_simp⟩, plan_yield ?_⟩
    simp only [Act.put, List.setIfInBounds_toArray, List.set_cons_zero, List.set_cons_succ]
    simp only [List.cons_append, List.nil_append, List.append_nil, List.filterMap_cons, List.filterMap_nil, List.getElem?_toArray, List.getElem?_cons_zero, List.getElem?_cons_succ]
    go_wp2_with fail
    refine ⟨rfl, _, .string (s.extract 16 24), rfl, Or.inl ⟨by rfl, fun W hW => by go_simp⟩, plan_yield ?_⟩
    simp only [Act.put, List.setIfInBounds_toArray, List.set_cons_zero, List.set_cons_succ]
    simp only [List.cons_append, List.nil_append, List.append_nil, List.filterMap_cons, List.filterMap_nil, List.getElem?_toArray, List.getElem?_cons_zero, List.getElem?_cons_succ]
    go_wp2_with fail
    refine ⟨rfl, _, .string (s.extract 28 32), rfl, Or.inl ⟨by rfl, fun W hW => by go_simp⟩, plan_yield ?_⟩
    simp only [Act.put, List.setIfInBounds_toArray, List.set_cons_zero, List.set_cons_succ]
    simp only [List.cons_append, List.nil_append, List.append_nil, List.filterMap_cons, List.filterMap_nil, List.getElem?_toArray, List.getElem?_cons_zero, List.getElem?_cons_succ]
    go_wp2_with fail
    refine ⟨rfl, _, .string (s.extract 108 112), rfl, Or.inl ⟨by rfl, fun W hW => by go_simp⟩, plan_fork ?_ ?_⟩
    simp only [Act.put, List.setIfInBounds_toArray, List.set_cons_zero, List.set_cons_succ]
    · simp only [List.cons_append, List.nil_append, List.append_nil, List.filterMap_cons, List.filterMap_nil, List.getElem?_toArray, List.getElem?_cons_zero, List.getElem?_cons_succ]
      go_wp2_with fail
      refine (C8.out _).mono ?_
      rintro e y2 ⟨rfl, hy2⟩
      subst y2
      go_wp2_with fail
      refine ⟨rfl, E0, plan_yield ?_⟩
      simp only [List.cons_append, List.nil_append, List.append_nil, List.filterMap_cons, List.filterMap_nil, List.getElem?_toArray, List.getElem?_cons_zero, List.getElem?_cons_succ]
      go_wp2_with fail
      refine ⟨rfl, _, .int .i64 X.b, rfl, Or.inl ⟨by rfl, fun W hW => by go_simp⟩, plan_fork ?_ ?_⟩
      simp only [Act.put, List.setIfInBounds_toArray, List.set_cons_zero, List.set_cons_succ]
      · simp only [List.cons_append, List.nil_append, List.append_nil, List.filterMap_cons, List.filterMap_nil, List.getElem?_toArray, List.getElem?_cons_zero, List.getElem?_cons_succ]
        go_wp2_with fail
        refine (C16.out _).mono ?_
        rintro e y4 ⟨rfl, hy4⟩
        subst y4
        go_wp2_with fail
        refine ⟨rfl, E0, plan_fork ?_ ?_⟩
        · simp only [List.cons_append, List.nil_append, List.append_nil, List.filterMap_cons, List.filterMap_nil, List.getElem?_toArray, List.getElem?_cons_zero, List.getElem?_cons_succ]
          go_wp2_with fail
          refine (T24.out _).mono ?_
          rintro e y6 ⟨rfl, hy6⟩
          have E6 : Hid (DS w y6) := E0.out.below hy6
          clear hy6
          go_wp2_with fail
          refine ⟨rfl, E6, plan_fork ?_ ?_⟩
          · simp only [List.cons_append, List.nil_append, List.append_nil, List.filterMap_cons, List.filterMap_nil, List.getElem?_toArray, List.getElem?_cons_zero, List.getElem?_cons_succ]
            go_wp2_with fail
            refine (C28.out _).mono ?_
            rintro e y8 ⟨rfl, hy8⟩
            subst y8
            go_wp2_with fail
            refine ⟨rfl, E6, plan_yield ?_⟩
            simp only [List.cons_append, List.nil_append, List.append_nil, List.filterMap_cons, List.filterMap_nil, List.getElem?_toArray, List.getElem?_cons_zero, List.getElem?_cons_succ]
            go_wp2_with fail
            refine ⟨rfl, _, .int .i64 X.n, rfl, Or.inl ⟨by rfl, fun W hW => by go_simp⟩, plan_fork ?_ ?_⟩
            simp only [Act.put, List.setIfInBounds_toArray, List.set_cons_zero, List.set_cons_succ]
            · simp only [List.cons_append, List.nil_append, List.append_nil, List.filterMap_cons, List.filterMap_nil, List.getElem?_toArray, List.getElem?_cons_zero, List.getElem?_cons_succ]
              go_wp2_with fail
              refine (T68.out _).mono ?_
              rintro e y10 ⟨rfl, hy10⟩
              have E10 : Hid (DS w y10) := E6.out.below hy10
              clear hy10
              go_wp2_with fail
              refine ⟨rfl, E10, plan_fork ?_ ?_⟩
              · simp only [List.cons_append, List.nil_append, List.append_nil, List.filterMap_cons, List.filterMap_nil, List.getElem?_toArray, List.getElem?_cons_zero, List.getElem?_cons_succ]
                go_wp2_with fail
                refine (C108.out _).mono ?_
                rintro e y12 ⟨rfl, hy12⟩
                subst y12
                go_wp2_with fail
                refine ⟨rfl, E10, plan_yield ?_⟩
                simp only [List.cons_append, List.nil_append, List.append_nil, List.filterMap_cons, List.filterMap_nil, List.getElem?_toArray, List.getElem?_cons_zero, List.getElem?_cons_succ]
                go_wp2_with fail
                refine ⟨rfl, _, .int .i64 X.u, rfl, Or.inl ⟨by rfl, fun W hW => by go_simp⟩, plan_fork ?_ ?_⟩
                simp only [Act.put, List.setIfInBounds_toArray, List.set_cons_zero, List.set_cons_succ]
                · simp only [List.cons_append, List.nil_append, List.append_nil, List.filterMap_cons, List.filterMap_nil, List.getElem?_toArray, List.getElem?_cons_zero, List.getElem?_cons_succ]
                  refine su_build6 (by rfl) 45 _ _ _ _ _ _ (by rfl) _ _ _ _ _ _ (by rfl) (by rfl) (by rfl) (by rfl) (by rfl) (by rfl) (suC X) (by exact hbs) ?_
                  simp only [Act.put, List.setIfInBounds_toArray, List.set_cons_zero, List.set_cons_succ]
                  go_wp2_with fail
                  refine ⟨rfl, E10, plan_force ?_⟩
                  simp only [List.cons_append, List.nil_append, List.append_nil, List.filterMap_cons, List.filterMap_nil, List.getElem?_toArray, List.getElem?_cons_zero, List.getElem?_cons_succ]
                  have E13 : Hid (DS w (y10.alloc (.cells (suC su0) 45))) := E10.out.new.1
                  have A13 : Hid (DA w (y10.alloc (.cells (suC su0) 45)) y10.heap.size) := E10.out.new.2
                  go_wp2_with fail
                  generalize (y10.alloc (.cells (suC su0) 45)) = z13 at *
                  generalize y10.heap.size = g13 at *
                  refine ⟨rfl, E13, plan_force ?_⟩
                  simp only [List.cons_append, List.nil_append, List.append_nil, List.filterMap_cons, List.filterMap_nil, List.getElem?_toArray, List.getElem?_cons_zero, List.getElem?_cons_succ]
                  have hst := Blk.store (P := Try.prog) A13.out.1 (suC X) (by simp only [suC_size]) (fun v hv => Array.all_eq_true'.1 (suC_all X) v (Array.mem_toList_iff.1 hv))
                  have hvs := suC_size X
                  go_wp2_with fail
                  refine ⟨rfl, (E13.out.fill A13.out (suC X)).1, plan_fin ?_⟩
                  simp only [List.cons_append, List.nil_append, List.append_nil, List.filterMap_cons, List.filterMap_nil, List.getElem?_toArray, List.getElem?_cons_zero, List.getElem?_cons_succ]
                  go_wp2_with fail
                  refine ⟨rfl, ?_⟩
                  go_wp2_with fail
                  go_meet
                  exact ⟨g13, rfl, (E13.out.fill A13.out (suC X)).1, (E13.out.fill A13.out (suC X)).2, A13.out.2⟩
                · simp only [List.cons_append, List.nil_append, List.append_nil, List.filterMap_cons, List.filterMap_nil, List.getElem?_toArray, List.getElem?_cons_zero, List.getElem?_cons_succ]
                  have E15 : Hid (DS w (y10.alloc (.cells (suC su0) 45))) := E10.out.new.1
                  have A15 : Hid (DA w (y10.alloc (.cells (suC su0) 45)) y10.heap.size) := E10.out.new.2
                  go_wp2_with fail
                  generalize (y10.alloc (.cells (suC su0) 45)) = z15 at *
                  generalize y10.heap.size = g15 at *
                  refine ⟨rfl, E15, plan_force ?_⟩
                  simp only [List.cons_append, List.nil_append, List.append_nil, List.filterMap_cons, List.filterMap_nil, List.getElem?_toArray, List.getElem?_cons_zero, List.getElem?_cons_succ]
                  refine su_build6 (by rfl) 45 _ _ _ _ _ _ (by rfl) _ _ _ _ _ _ (by rfl) (by rfl) (by rfl) (by rfl) (by rfl) (by rfl) (suC X) (by exact hbs) ?_
                  simp only [Act.put, List.setIfInBounds_toArray, List.set_cons_zero, List.set_cons_succ]
                  go_wp2_with fail
                  refine ⟨rfl, E15, plan_force ?_⟩
                  simp only [List.cons_append, List.nil_append, List.append_nil, List.filterMap_cons, List.filterMap_nil, List.getElem?_toArray, List.getElem?_cons_zero, List.getElem?_cons_succ]
                  have hst := Blk.store (P := Try.prog) A15.out.1 (suC X) (by simp only [suC_size]) (fun v hv => Array.all_eq_true'.1 (suC_all X) v (Array.mem_toList_iff.1 hv))
                  have hvs := suC_size X
                  go_wp2_with fail
                  refine ⟨rfl, (E15.out.fill A15.out (suC X)).1, plan_fin ?_⟩
                  simp only [List.cons_append, List.nil_append, List.append_nil, List.filterMap_cons, List.filterMap_nil, List.getElem?_toArray, List.getElem?_cons_zero, List.getElem?_cons_succ]
                  go_wp2_with fail
                  refine ⟨rfl, ?_⟩
                  go_wp2_with fail
                  go_meet
                  exact ⟨g15, rfl, (E15.out.fill A15.out (suC X)).1, (E15.out.fill A15.out (suC X)).2, A15.out.2⟩
              · simp only [List.cons_append, List.nil_append, List.append_nil, List.filterMap_cons, List.filterMap_nil, List.getElem?_toArray, List.getElem?_cons_zero, List.getElem?_cons_succ]
                have E11 : Hid (DS w (y10.alloc (.cells (suC su0) 45))) := E10.out.new.1
                have A11 : Hid (DA w (y10.alloc (.cells (suC su0) 45)) y10.heap.size) := E10.out.new.2
                go_wp2_with fail
                generalize (y10.alloc (.cells (suC su0) 45)) = z11 at *
                generalize y10.heap.size = g11 at *
                refine ⟨rfl, E11, plan_force ?_⟩
                simp only [List.cons_append, List.nil_append, List.append_nil, List.filterMap_cons, List.filterMap_nil, List.getElem?_toArray, List.getElem?_cons_zero, List.getElem?_cons_succ]
                go_wp2_with fail
                refine (C108.out _).mono ?_
                rintro e y17 ⟨rfl, hy17⟩
                subst y17
                go_wp2_with fail
                refine ⟨rfl, E11, plan_yield ?_⟩
                simp only [List.cons_append, List.nil_append, List.append_nil, List.filterMap_cons, List.filterMap_nil, List.getElem?_toArray, List.getElem?_cons_zero, List.getElem?_cons_succ]
                go_wp2_with fail
                refine ⟨rfl, _, .int .i64 X.u, rfl, Or.inl ⟨by rfl, fun W hW => by go_simp⟩, plan_force ?_⟩
                simp only [Act.put, List.setIfInBounds_toArray, List.set_cons_zero, List.set_cons_succ]
                simp only [List.cons_append, List.nil_append, List.append_nil, List.filterMap_cons, List.filterMap_nil, List.getElem?_toArray, List.getElem?_cons_zero, List.getElem?_cons_succ]
                refine su_build6 (by rfl) 45 _ _ _ _ _ _ (by rfl) _ _ _ _ _ _ (by rfl) (by rfl) (by rfl) (by rfl) (by rfl) (by rfl) (suC X) (by exact hbs) ?_
                simp only [Act.put, List.setIfInBounds_toArray, List.set_cons_zero, List.set_cons_succ]
                go_wp2_with fail
                refine ⟨rfl, E11, plan_force ?_⟩
                simp only [List.cons_append, List.nil_append, List.append_nil, List.filterMap_cons, List.filterMap_nil, List.getElem?_toArray, List.getElem?_cons_zero, List.getElem?_cons_succ]
                have hst := Blk.store (P := Try.prog) A11.out.1 (suC X) (by simp only [suC_size]) (fun v hv => Array.all_eq_true'.1 (suC_all X) v (Array.mem_toList_iff.1 hv))
                have hvs := suC_size X
                go_wp2_with fail
                refine ⟨rfl, (E11.out.fill A11.out (suC X)).1, plan_fin ?_⟩
                simp only [List.cons_append, List.nil_append, List.append_nil, List.filterMap_cons, List.filterMap_nil, List.getElem?_toArray, List.getElem?_cons_zero, List.getElem?_cons_succ]
                go_wp2_with fail
                refine ⟨rfl, ?_⟩
                go_wp2_with fail
                go_meet
                exact ⟨g11, rfl, (E11.out.fill A11.out (suC X)).1, (E11.out.fill A11.out (suC X)).2, A11.out.2⟩
            · simp only [List.cons_append, List.nil_append, List.append_nil, List.filterMap_cons, List.filterMap_nil, List.getElem?_toArray, List.getElem?_cons_zero, List.getElem?_cons_succ]
              have E9 : Hid (DS w (y6.alloc (.cells (suC su0) 45))) := E6.out.new.1
              have A9 : Hid (DA w (y6.alloc (.cells (suC su0) 45)) y6.heap.size) := E6.out.new.2
              go_wp2_with fail
              generalize (y6.alloc (.cells (suC su0) 45)) = z9 at *
              generalize y6.heap.size = g9 at *
              refine ⟨rfl, E9, plan_force ?_⟩
              simp only [List.cons_append, List.nil_append, List.append_nil, List.filterMap_cons, List.filterMap_nil, List.getElem?_toArray, List.getElem?_cons_zero, List.getElem?_cons_succ]
              go_wp2_with fail
              refine (T68.out _).mono ?_
              rintro e y19 ⟨rfl, hy19⟩
              have E19 : Hid (DS w y19) := E9.out.below hy19
              have A19 : Hid (DA w y19 g9) := A9.out.below hy19
              clear hy19
              go_wp2_with fail
              refine ⟨rfl, E19, plan_force ?_⟩
              simp only [List.cons_append, List.nil_append, List.append_nil, List.filterMap_cons, List.filterMap_nil, List.getElem?_toArray, List.getElem?_cons_zero, List.getElem?_cons_succ]
              go_wp2_with fail
              refine (C108.out _).mono ?_
              rintro e y20 ⟨rfl, hy20⟩
              subst y20
              go_wp2_with fail
              refine ⟨rfl, E19, plan_yield ?_⟩
              simp only [List.cons_append, List.nil_append, List.append_nil, List.filterMap_cons, List.filterMap_nil, List.getElem?_toArray, List.getElem?_cons_zero, List.getElem?_cons_succ]
              go_wp2_with fail
              refine ⟨rfl, _, .int .i64 X.u, rfl, Or.inl ⟨by rfl, fun W hW => by go_simp⟩, plan_force ?_⟩
              simp only [Act.put, List.setIfInBounds_toArray, List.set_cons_zero, List.set_cons_succ]
              simp only [List.cons_append, List.nil_append, List.append_nil, List.filterMap_cons, List.filterMap_nil, List.getElem?_toArray, List.getElem?_cons_zero, List.getElem?_cons_succ]
              refine su_build6 (by rfl) 45 _ _ _ _ _ _ (by rfl) _ _ _ _ _ _ (by rfl) (by rfl) (by rfl) (by rfl) (by rfl) (by rfl) (suC X) (by exact hbs) ?_
              simp only [Act.put, List.setIfInBounds_toArray, List.set_cons_zero, List.set_cons_succ]
              go_wp2_with fail
              refine ⟨rfl, E19, plan_force ?_⟩
              simp only [List.cons_append, List.nil_append, List.append_nil, List.filterMap_cons, List.filterMap_nil, List.getElem?_toArray, List.getElem?_cons_zero, List.getElem?_cons_succ]
              have hst := Blk.store (P := Try.prog) A19.out.1 (suC X) (by simp only [suC_size]) (fun v hv => Array.all_eq_true'.1 (suC_all X) v (Array.mem_toList_iff.1 hv))
              have hvs := suC_size X
              go_wp2_with fail
              refine ⟨rfl, (E19.out.fill A19.out (suC X)).1, plan_fin ?_⟩
              simp only [List.cons_append, List.nil_append, List.append_nil, List.filterMap_cons, List.filterMap_nil, List.getElem?_toArray, List.getElem?_cons_zero, List.getElem?_cons_succ]
              go_wp2_with fail
              refine ⟨rfl, ?_⟩
              go_wp2_with fail
              go_meet
              exact ⟨g9, rfl, (E19.out.fill A19.out (suC X)).1, (E19.out.fill A19.out (suC X)).2, A19.out.2⟩
          · simp only [List.cons_append, List.nil_append, List.append_nil, List.filterMap_cons, List.filterMap_nil, List.getElem?_toArray, List.getElem?_cons_zero, List.getElem?_cons_succ]
            have E7 : Hid (DS w (y6.alloc (.cells (suC su0) 45))) := E6.out.new.1
            have A7 : Hid (DA w (y6.alloc (.cells (suC su0) 45)) y6.heap.size) := E6.out.new.2
            go_wp2_with fail
            generalize (y6.alloc (.cells (suC su0) 45)) = z7 at *
            generalize y6.heap.size = g7 at *
            refine ⟨rfl, E7, plan_force ?_⟩
            simp only [List.cons_append, List.nil_append, List.append_nil, List.filterMap_cons, List.filterMap_nil, List.getElem?_toArray, List.getElem?_cons_zero, List.getElem?_cons_succ]
            go_wp2_with fail
            refine (C28.out _).mono ?_
            rintro e y22 ⟨rfl, hy22⟩
            subst y22
            go_wp2_with fail
            refine ⟨rfl, E7, plan_yield ?_⟩
            simp only [List.cons_append, List.nil_append, List.append_nil, List.filterMap_cons, List.filterMap_nil, List.getElem?_toArray, List.getElem?_cons_zero, List.getElem?_cons_succ]
            go_wp2_with fail
            refine ⟨rfl, _, .int .i64 X.n, rfl, Or.inl ⟨by rfl, fun W hW => by go_simp⟩, plan_force ?_⟩
            simp only [Act.put, List.setIfInBounds_toArray, List.set_cons_zero, List.set_cons_succ]
            simp only [List.cons_append, List.nil_append, List.append_nil, List.filterMap_cons, List.filterMap_nil, List.getElem?_toArray, List.getElem?_cons_zero, List.getElem?_cons_succ]
            go_wp2_with fail
            refine (T68.out _).mono ?_
            rintro e y23 ⟨rfl, hy23⟩
            have E23 : Hid (DS w y23) := E7.out.below hy23
            have A23 : Hid (DA w y23 g7) := A7.out.below hy23
            clear hy23
            go_wp2_with fail
            refine ⟨rfl, E23, plan_force ?_⟩
            simp only [List.cons_append, List.nil_append, List.append_nil, List.filterMap_cons, List.filterMap_nil, List.getElem?_toArray, List.getElem?_cons_zero, List.getElem?_cons_succ]
            go_wp2_with fail
            refine (C108.out _).mono ?_
            rintro e y24 ⟨rfl, hy24⟩
            subst y24
            go_wp2_with fail
            refine ⟨rfl, E23, plan_yield ?_⟩
            simp only [List.cons_append, List.nil_append, List.append_nil, List.filterMap_cons, List.filterMap_nil, List.getElem?_toArray, List.getElem?_cons_zero, List.getElem?_cons_succ]
            go_wp2_with fail
            refine ⟨rfl, _, .int .i64 X.u, rfl, Or.inl ⟨by rfl, fun W hW => by go_simp⟩, plan_force ?_⟩
            simp only [Act.put, List.setIfInBounds_toArray, List.set_cons_zero, List.set_cons_succ]
            simp only [List.cons_append, List.nil_append, List.append_nil, List.filterMap_cons, List.filterMap_nil, List.getElem?_toArray, List.getElem?_cons_zero, List.getElem?_cons_succ]
            refine su_build6 (by rfl) 45 _ _ _ _ _ _ (by rfl) _ _ _ _ _ _ (by rfl) (by rfl) (by rfl) (by rfl) (by rfl) (by rfl) (suC X) (by exact hbs) ?_
            simp only [Act.put, List.setIfInBounds_toArray, List.set_cons_zero, List.set_cons_succ]
            go_wp2_with fail
            refine ⟨rfl, E23, plan_force ?_⟩
            simp only [List.cons_append, List.nil_append, List.append_nil, List.filterMap_cons, List.filterMap_nil, List.getElem?_toArray, List.getElem?_cons_zero, List.getElem?_cons_succ]
            have hst := Blk.store (P := Try.prog) A23.out.1 (suC X) (by simp only [suC_size]) (fun v hv => Array.all_eq_true'.1 (suC_all X) v (Array.mem_toList_iff.1 hv))
            have hvs := suC_size X
            go_wp2_with fail
            refine ⟨rfl, (E23.out.fill A23.out (suC X)).1, plan_fin ?_⟩
            simp only [List.cons_append, List.nil_append, List.append_nil, List.filterMap_cons, List.filterMap_nil, List.getElem?_toArray, List.getElem?_cons_zero, List.getElem?_cons_succ]
            go_wp2_with fail
            refine ⟨rfl, ?_⟩
            go_wp2_with fail
            go_meet
            exact ⟨g7, rfl, (E23.out.fill A23.out (suC X)).1, (E23.out.fill A23.out (suC X)).2, A23.out.2⟩
        · simp only [List.cons_append, List.nil_append, List.append_nil, List.filterMap_cons, List.filterMap_nil, List.getElem?_toArray, List.getElem?_cons_zero, List.getElem?_cons_succ]
          have E5 : Hid (DS w (vd.alloc (.cells (suC su0) 45))) := E0.out.new.1
          have A5 : Hid (DA w (vd.alloc (.cells (suC su0) 45)) vd.heap.size) := E0.out.new.2
          go_wp2_with fail
          generalize (vd.alloc (.cells (suC su0) 45)) = z5 at *
          generalize vd.heap.size = g5 at *
          refine ⟨rfl, E5, plan_force ?_⟩
          simp only [List.cons_append, List.nil_append, List.append_nil, List.filterMap_cons, List.filterMap_nil, List.getElem?_toArray, List.getElem?_cons_zero, List.getElem?_cons_succ]
          go_wp2_with fail
          refine (T24.out _).mono ?_
          rintro e y26 ⟨rfl, hy26⟩
          have E26 : Hid (DS w y26) := E5.out.below hy26
          have A26 : Hid (DA w y26 g5) := A5.out.below hy26
          clear hy26
          go_wp2_with fail
          refine ⟨rfl, E26, plan_force ?_⟩
          simp only [List.cons_append, List.nil_append, List.append_nil, List.filterMap_cons, List.filterMap_nil, List.getElem?_toArray, List.getElem?_cons_zero, List.getElem?_cons_succ]
          go_wp2_with fail
          refine (C28.out _).mono ?_
          rintro e y27 ⟨rfl, hy27⟩
          subst y27
          go_wp2_with fail
          refine ⟨rfl, E26, plan_yield ?_⟩
          simp only [List.cons_append, List.nil_append, List.append_nil, List.filterMap_cons, List.filterMap_nil, List.getElem?_toArray, List.getElem?_cons_zero, List.getElem?_cons_succ]
          go_wp2_with fail
          refine ⟨rfl, _, .int .i64 X.n, rfl, Or.inl ⟨by rfl, fun W hW => by go_simp⟩, plan_force ?_⟩
          simp only [Act.put, List.setIfInBounds_toArray, List.set_cons_zero, List.set_cons_succ]
          simp only [List.cons_append, List.nil_append, List.append_nil, List.filterMap_cons, List.filterMap_nil, List.getElem?_toArray, List.getElem?_cons_zero, List.getElem?_cons_succ]
          go_wp2_with fail
          refine (T68.out _).mono ?_
          rintro e y28 ⟨rfl, hy28⟩
          have E28 : Hid (DS w y28) := E26.out.below hy28
          have A28 : Hid (DA w y28 g5) := A26.out.below hy28
          clear hy28
          go_wp2_with fail
          refine ⟨rfl, E28, plan_force ?_⟩
          simp only [List.cons_append, List.nil_append, List.append_nil, List.filterMap_cons, List.filterMap_nil, List.getElem?_toArray, List.getElem?_cons_zero, List.getElem?_cons_succ]
          go_wp2_with fail
          refine (C108.out _).mono ?_
          rintro e y29 ⟨rfl, hy29⟩
          subst y29
          go_wp2_with fail
          refine ⟨rfl, E28, plan_yield ?_⟩
          simp only [List.cons_append, List.nil_append, List.append_nil, List.filterMap_cons, List.filterMap_nil, List.getElem?_toArray, List.getElem?_cons_zero, List.getElem?_cons_succ]
          go_wp2_with fail
          refine ⟨rfl, _, .int .i64 X.u, rfl, Or.inl ⟨by rfl, fun W hW => by go_simp⟩, plan_force ?_⟩
          simp only [Act.put, List.setIfInBounds_toArray, List.set_cons_zero, List.set_cons_succ]
          simp only [List.cons_append, List.nil_append, List.append_nil, List.filterMap_cons, List.filterMap_nil, List.getElem?_toArray, List.getElem?_cons_zero, List.getElem?_cons_succ]
          refine su_build6 (by rfl) 45 _ _ _ _ _ _ (by rfl) _ _ _ _ _ _ (by rfl) (by rfl) (by rfl) (by rfl) (by rfl) (by rfl) (suC X) (by exact hbs) ?_
          simp only [Act.put, List.setIfInBounds_toArray, List.set_cons_zero, List.set_cons_succ]
          go_wp2_with fail
          refine ⟨rfl, E28, plan_force ?_⟩
          simp only [List.cons_append, List.nil_append, List.append_nil, List.filterMap_cons, List.filterMap_nil, List.getElem?_toArray, List.getElem?_cons_zero, List.getElem?_cons_succ]
          have hst := Blk.store (P := Try.prog) A28.out.1 (suC X) (by simp only [suC_size]) (fun v hv => Array.all_eq_true'.1 (suC_all X) v (Array.mem_toList_iff.1 hv))
          have hvs := suC_size X
          go_wp2_with fail
          refine ⟨rfl, (E28.out.fill A28.out (suC X)).1, plan_fin ?_⟩
          simp only [List.cons_append, List.nil_append, List.append_nil, List.filterMap_cons, List.filterMap_nil, List.getElem?_toArray, List.getElem?_cons_zero, List.getElem?_cons_succ]
          go_wp2_with fail
          refine ⟨rfl, ?_⟩
          go_wp2_with fail
          go_meet
          exact ⟨g5, rfl, (E28.out.fill A28.out (suC X)).1, (E28.out.fill A28.out (suC X)).2, A28.out.2⟩
      · simp only [List.cons_append, List.nil_append, List.append_nil, List.filterMap_cons, List.filterMap_nil, List.getElem?_toArray, List.getElem?_cons_zero, List.getElem?_cons_succ]
        have E3 : Hid (DS w (vd.alloc (.cells (suC su0) 45))) := E0.out.new.1
        have A3 : Hid (DA w (vd.alloc (.cells (suC su0) 45)) vd.heap.size) := E0.out.new.2
        go_wp2_with fail
        generalize (vd.alloc (.cells (suC su0) 45)) = z3 at *
        generalize vd.heap.size = g3 at *
        refine ⟨rfl, E3, plan_force ?_⟩
        simp only [List.cons_append, List.nil_append, List.append_nil, List.filterMap_cons, List.filterMap_nil, List.getElem?_toArray, List.getElem?_cons_zero, List.getElem?_cons_succ]
        go_wp2_with fail
        refine (C16.out _).mono ?_
        rintro e y31 ⟨rfl, hy31⟩
        subst y31
        go_wp2_with fail
        refine ⟨rfl, E3, plan_force ?_⟩
        simp only [List.cons_append, List.nil_append, List.append_nil, List.filterMap_cons, List.filterMap_nil, List.getElem?_toArray, List.getElem?_cons_zero, List.getElem?_cons_succ]
        go_wp2_with fail
        refine (T24.out _).mono ?_
        rintro e y32 ⟨rfl, hy32⟩
        have E32 : Hid (DS w y32) := E3.out.below hy32
        have A32 : Hid (DA w y32 g3) := A3.out.below hy32
        clear hy32
        go_wp2_with fail
        refine ⟨rfl, E32, plan_force ?_⟩
        simp only [List.cons_append, List.nil_append, List.append_nil, List.filterMap_cons, List.filterMap_nil, List.getElem?_toArray, List.getElem?_cons_zero, List.getElem?_cons_succ]
        go_wp2_with fail
        refine (C28.out _).mono ?_
        rintro e y33 ⟨rfl, hy33⟩
        subst y33
        go_wp2_with fail
        refine ⟨rfl, E32, plan_yield ?_⟩
        simp only [List.cons_append, List.nil_append, List.append_nil, List.filterMap_cons, List.filterMap_nil, List.getElem?_toArray, List.getElem?_cons_zero, List.getElem?_cons_succ]
        go_wp2_with fail
        refine ⟨rfl, _, .int .i64 X.n, rfl, Or.inl ⟨by rfl, fun W hW => by go_simp⟩, plan_force ?_⟩
        simp only [Act.put, List.setIfInBounds_toArray, List.set_cons_zero, List.set_cons_succ]
        simp only [List.cons_append, List.nil_append, List.append_nil, List.filterMap_cons, List.filterMap_nil, List.getElem?_toArray, List.getElem?_cons_zero, List.getElem?_cons_succ]
        go_wp2_with fail
        refine (T68.out _).mono ?_
        rintro e y34 ⟨rfl, hy34⟩
        have E34 : Hid (DS w y34) := E32.out.below hy34
        have A34 : Hid (DA w y34 g3) := A32.out.below hy34
        clear hy34
        go_wp2_with fail
        refine ⟨rfl, E34, plan_force ?_⟩
        simp only [List.cons_append, List.nil_append, List.append_nil, List.filterMap_cons, List.filterMap_nil, List.getElem?_toArray, List.getElem?_cons_zero, List.getElem?_cons_succ]
        go_wp2_with fail
        refine (C108.out _).mono ?_
        rintro e y35 ⟨rfl, hy35⟩
        subst y35
        go_wp2_with fail
        refine ⟨rfl, E34, plan_yield ?_⟩
        simp only [List.cons_append, List.nil_append, List.append_nil, List.filterMap_cons, List.filterMap_nil, List.getElem?_toArray, List.getElem?_cons_zero, List.getElem?_cons_succ]
        go_wp2_with fail
        refine ⟨rfl, _, .int .i64 X.u, rfl, Or.inl ⟨by rfl, fun W hW => by go_simp⟩, plan_force ?_⟩
        simp only [Act.put, List.setIfInBounds_toArray, List.set_cons_zero, List.set_cons_succ]
        simp only [List.cons_append, List.nil_append, List.append_nil, List.filterMap_cons, List.filterMap_nil, List.getElem?_toArray, List.getElem?_cons_zero, List.getElem?_cons_succ]
        refine su_build6 (by rfl) 45 _ _ _ _ _ _ (by rfl) _ _ _ _ _ _ (by rfl) (by rfl) (by rfl) (by rfl) (by rfl) (by rfl) (suC X) (by exact hbs) ?_
        simp only [Act.put, List.setIfInBounds_toArray, List.set_cons_zero, List.set_cons_succ]
        go_wp2_with fail
        refine ⟨rfl, E34, plan_force ?_⟩
        simp only [List.cons_append, List.nil_append, List.append_nil, List.filterMap_cons, List.filterMap_nil, List.getElem?_toArray, List.getElem?_cons_zero, List.getElem?_cons_succ]
        have hst := Blk.store (P := Try.prog) A34.out.1 (suC X) (by simp only [suC_size]) (fun v hv => Array.all_eq_true'.1 (suC_all X) v (Array.mem_toList_iff.1 hv))
        have hvs := suC_size X
        go_wp2_with fail
        refine ⟨rfl, (E34.out.fill A34.out (suC X)).1, plan_fin ?_⟩
        simp only [List.cons_append, List.nil_append, List.append_nil, List.filterMap_cons, List.filterMap_nil, List.getElem?_toArray, List.getElem?_cons_zero, List.getElem?_cons_succ]
        go_wp2_with fail
        refine ⟨rfl, ?_⟩
        go_wp2_with fail
        go_meet
        exact ⟨g3, rfl, (E34.out.fill A34.out (suC X)).1, (E34.out.fill A34.out (suC X)).2, A34.out.2⟩
    · simp only [List.cons_append, List.nil_append, List.append_nil, List.filterMap_cons, List.filterMap_nil, List.getElem?_toArray, List.getElem?_cons_zero, List.getElem?_cons_succ]
      have E1 : Hid (DS w (vd.alloc (.cells (suC su0) 45))) := E0.out.new.1
      have A1 : Hid (DA w (vd.alloc (.cells (suC su0) 45)) vd.heap.size) := E0.out.new.2
      go_wp2_with fail
      generalize (vd.alloc (.cells (suC su0) 45)) = z1 at *
      generalize vd.heap.size = g1 at *
      refine ⟨rfl, E1, plan_force ?_⟩
      simp only [List.cons_append, List.nil_append, List.append_nil, List.filterMap_cons, List.filterMap_nil, List.getElem?_toArray, List.getElem?_cons_zero, List.getElem?_cons_succ]
      go_wp2_with fail
      refine (C8.out _).mono ?_
      rintro e y37 ⟨rfl, hy37⟩
      subst y37
      go_wp2_with fail
      refine ⟨rfl, E1, plan_yield ?_⟩
      simp only [List.cons_append, List.nil_append, List.append_nil, List.filterMap_cons, List.filterMap_nil, List.getElem?_toArray, List.getElem?_cons_zero, List.getElem?_cons_succ]
      go_wp2_with fail
      refine ⟨rfl, _, .int .i64 X.b, rfl, Or.inl ⟨by rfl, fun W hW => by go_simp⟩, plan_force ?_⟩
      simp only [Act.put, List.setIfInBounds_toArray, List.set_cons_zero, List.set_cons_succ]
      simp only [List.cons_append, List.nil_append, List.append_nil, List.filterMap_cons, List.filterMap_nil, List.getElem?_toArray, List.getElem?_cons_zero, List.getElem?_cons_succ]
      go_wp2_with fail
      refine (C16.out _).mono ?_
      rintro e y38 ⟨rfl, hy38⟩
      subst y38
      go_wp2_with fail
      refine ⟨rfl, E1, plan_force ?_⟩
      simp only [List.cons_append, List.nil_append, List.append_nil, List.filterMap_cons, List.filterMap_nil, List.getElem?_toArray, List.getElem?_cons_zero, List.getElem?_cons_succ]
      go_wp2_with fail
      refine (T24.out _).mono ?_
      rintro e y39 ⟨rfl, hy39⟩
      have E39 : Hid (DS w y39) := E1.out.below hy39
      have A39 : Hid (DA w y39 g1) := A1.out.below hy39
      clear hy39
      go_wp2_with fail
      refine ⟨rfl, E39, plan_force ?_⟩
      simp only [List.cons_append, List.nil_append, List.append_nil, List.filterMap_cons, List.filterMap_nil, List.getElem?_toArray, List.getElem?_cons_zero, List.getElem?_cons_succ]
      go_wp2_with fail
      refine (C28.out _).mono ?_
      rintro e y40 ⟨rfl, hy40⟩
      subst y40
      go_wp2_with fail
      refine ⟨rfl, E39, plan_yield ?_⟩
      simp only [List.cons_append, List.nil_append, List.append_nil, List.filterMap_cons, List.filterMap_nil, List.getElem?_toArray, List.getElem?_cons_zero, List.getElem?_cons_succ]
      go_wp2_with fail
      refine ⟨rfl, _, .int .i64 X.n, rfl, Or.inl ⟨by rfl, fun W hW => by go_simp⟩, plan_force ?_⟩
      simp only [Act.put, List.setIfInBounds_toArray, List.set_cons_zero, List.set_cons_succ]
      simp only [List.cons_append, List.nil_append, List.append_nil, List.filterMap_cons, List.filterMap_nil, List.getElem?_toArray, List.getElem?_cons_zero, List.getElem?_cons_succ]
      go_wp2_with fail
      refine (T68.out _).mono ?_
      rintro e y41 ⟨rfl, hy41⟩
      have E41 : Hid (DS w y41) := E39.out.below hy41
      have A41 : Hid (DA w y41 g1) := A39.out.below hy41
      clear hy41
      go_wp2_with fail
      refine ⟨rfl, E41, plan_force ?_⟩
      simp only [List.cons_append, List.nil_append, List.append_nil, List.filterMap_cons, List.filterMap_nil, List.getElem?_toArray, List.getElem?_cons_zero, List.getElem?_cons_succ]
      go_wp2_with fail
      refine (C108.out _).mono ?_
      rintro e y42 ⟨rfl, hy42⟩
      subst y42
      go_wp2_with fail
      refine ⟨rfl, E41, plan_yield ?_⟩
      simp only [List.cons_append, List.nil_append, List.append_nil, List.filterMap_cons, List.filterMap_nil, List.getElem?_toArray, List.getElem?_cons_zero, List.getElem?_cons_succ]
      go_wp2_with fail
      refine ⟨rfl, _, .int .i64 X.u, rfl, Or.inl ⟨by rfl, fun W hW => by go_simp⟩, plan_force ?_⟩
      simp only [Act.put, List.setIfInBounds_toArray, List.set_cons_zero, List.set_cons_succ]
      simp only [List.cons_append, List.nil_append, List.append_nil, List.filterMap_cons, List.filterMap_nil, List.getElem?_toArray, List.getElem?_cons_zero, List.getElem?_cons_succ]
      refine su_build6 (by rfl) 45 _ _ _ _ _ _ (by rfl) _ _ _ _ _ _ (by rfl) (by rfl) (by rfl) (by rfl) (by rfl) (by rfl) (suC X) (by exact hbs) ?_
      simp only [Act.put, List.setIfInBounds_toArray, List.set_cons_zero, List.set_cons_succ]
      go_wp2_with fail
      refine ⟨rfl, E41, plan_force ?_⟩
      simp only [List.cons_append, List.nil_append, List.append_nil, List.filterMap_cons, List.filterMap_nil, List.getElem?_toArray, List.getElem?_cons_zero, List.getElem?_cons_succ]
      have hst := Blk.store (P := Try.prog) A41.out.1 (suC X) (by simp only [suC_size]) (fun v hv => Array.all_eq_true'.1 (suC_all X) v (Array.mem_toList_iff.1 hv))
      have hvs := suC_size X
      go_wp2_with fail
      refine ⟨rfl, (E41.out.fill A41.out (suC X)).1, plan_fin ?_⟩
      simp only [List.cons_append, List.nil_append, List.append_nil, List.filterMap_cons, List.filterMap_nil, List.getElem?_toArray, List.getElem?_cons_zero, List.getElem?_cons_succ]
      go_wp2_with fail
      refine ⟨rfl, ?_⟩
      go_wp2_with fail
      go_meet
      exact ⟨g1, rfl, (E41.out.fill A41.out (suC X)).1, (E41.out.fill A41.out (suC X)).2, A41.out.2⟩
  case rest =>
    rename World => v2
    obtain ⟨g, rfl, D2, X2, lg⟩ := hcut
    clear E C8 C16 C28 C108 T24 T68 hbs
    go_wp2_with (first | (refine wpList_load_rowg (by rfl) 45 _ (by rfl) (g) (by rfl) 45 (suC (X)) (0, 0) _ (by exact X2.out) Try.underlying45 (by rfl) (sizeRSup.trans (by rw [suC_size])) ?_; simp only [Act.put, List.setIfInBounds_toArray, List.set_cons_zero, List.set_cons_succ]) | fail)
    refine (HE.out _).mono ?_
    rintro e w3 ⟨rfl, hb3⟩
    have D3 : Hid (DS w w3) := D2.out.below hb3
    have X3 : Hid (Blk w3 g 45 (suC X)) := X2.out.below hb3 X2.out.lt
    clear hb3 D2 X2
    have b3 := D3.out.1
    go_wp2_with (first | (refine wpList_buildTo (by rfl) 45 _ (by rfl) _ rfl (suC su0) (by exact built_rsup0) ?_; simp only [Act.put, List.setIfInBounds_toArray, List.set_cons_zero, List.set_cons_succ]) | (refine wpList_store_row (by rfl) 45 _ _ (by rfl) (w.heap.size) (suC (su0)) (by rfl) (by rfl) 45 (_) (by exact b3) (sizeRSup.trans (by rw [suC_size])) (by simp only [suC_size]) (suC_all _) ?_; simp only [Act.put, List.setIfInBounds_toArray, List.set_cons_zero, List.set_cons_succ]) | (refine wpList_load_rowg (by rfl) 45 _ (by rfl) (g) (by rfl) 45 (suC (X)) (0, 0) _ (by exact X3.out) Try.underlying45 (by rfl) (sizeRSup.trans (by rw [suC_size])) ?_; simp only [Act.put, List.setIfInBounds_toArray, List.set_cons_zero, List.set_cons_succ]) | (refine wpList_store_row (by rfl) 45 _ _ (by rfl) (w.heap.size) (suC (X)) (by rfl) (by rfl) 45 (_) (by exact b3) (sizeRSup.trans (by rw [suC_size])) (by simp only [suC_size]) (suC_all _) ?_; simp only [Act.put, List.setIfInBounds_toArray, List.set_cons_zero, List.set_cons_succ]) | fail)
    try simp only [Exit.inBlock, Exit.then]
    refine bodyPost_ret (results_row2 Try.results12 _ _ (w.heap.size) 45 (suC su0) (0, 0) _ rfl (b3.set _) Try.underlying45 rfl (sizeRSup.trans (by rw [suC_size]))) rfl ?_
    exact ⟨rfl, below_setRow D3.out.2 (Nat.le_refl _) _⟩
set_option maxRecDepth 100000 in
set_option maxHeartbeats 4000000 in
theorem rsdecode_ok (s : ByteArray) (hs : s.size = 256) (hw : SuW (prS s)) (hc : sck (prS s) = true) (hq : strN (suB (prS s)) 256 = s) (w : World) : Calls Try.prog 12 #[.string s] w fun e w' => e = .returned (.tuple #[.agg (suC (prS s)), .bool true]) ∧ Below w.heap.size w w' := by
  have hz := zero_rsup
  have C8 : Hid (∀ w, Calls Try.prog 32 #[.string (s.extract 8 12)] w fun e w' => e = .returned (.int .u64 (prS s).b) ∧ w' = w) := sval4 s 8 12 rfl (by omega)
  have C16 : Hid (∀ w, Calls Try.prog 32 #[.string (s.extract 16 24)] w fun e w' => e = .returned (.int .u64 ((prS s).c : Int)) ∧ w' = w) := sval8 s 16 24 rfl (by omega)
  have C28 : Hid (∀ w, Calls Try.prog 32 #[.string (s.extract 28 32)] w fun e w' => e = .returned (.int .u64 (prS s).n) ∧ w' = w) := sval4 s 28 32 rfl (by omega)
  have C108 : Hid (∀ w, Calls Try.prog 32 #[.string (s.extract 108 112)] w fun e w' => e = .returned (.int .u64 (prS s).u) ∧ w' = w) := sval4 s 108 112 rfl (by omega)
  have T24 : Hid (∀ w, Calls Try.prog 33 #[.string s, .int .i64 24, .int .i64 32] w fun e w' => e = .returned (.agg (tiC (prS s).th (prS s).tr)) ∧ Below w.heap.size w w') := rtree24 s hs
  have T68 : Hid (∀ w, Calls Try.prog 33 #[.string s, .int .i64 68, .int .i64 72] w fun e w' => e = .returned (.agg (tiC (prS s).mh (prS s).mr)) ∧ Below w.heap.size w w') := rtree68 s hs
  have v1 : IntKind.i64.wrap (prS s).b = (prS s).b := by show IntKind.i64.wrap ((at4 s 8 : Nat) : Int) = ((at4 s 8 : Nat) : Int); have := at4_lt s 8; rw [IntKind.wrap_i64]; omega
  have v2 : IntKind.i64.wrap (prS s).n = (prS s).n := by show IntKind.i64.wrap ((at4 s 28 : Nat) : Int) = ((at4 s 28 : Nat) : Int); have := at4_lt s 28; rw [IntKind.wrap_i64]; omega
  have v3 : IntKind.i64.wrap (prS s).u = (prS s).u := by show IntKind.i64.wrap ((at4 s 108 : Nat) : Int) = ((at4 s 108 : Nat) : Int); have := at4_lt s 108; rw [IntKind.wrap_i64]; omega
  have hbs := sbuilt_rsup (prS s)
  have HE : Hid (∀ w, Calls Try.prog 8 #[.agg (suC (prS s))] w fun e w' => e = .returned (.tuple #[.string s, .bool true]) ∧ Below w.heap.size w w') := by
    have := rsencode_ok (prS s) hw hc
    rw [hq] at this
    exact this
  clear hw hc hq
  generalize prS s = X at *
  have E : Hid (DS w (w.alloc (.cells (suC su0) 45))) := ⟨Blk.new _ _ _, below_new1 _ _⟩
  go_enter Try.func12, Try.ntmps12
  go_wp2_with fail
  generalize (w.alloc (.cells (suC su0) 45)) = v at *
  go_cut [4] (fun u wx => ∃ g, u = .pointer (some ⟨g, 0, none⟩) ∧ Hid (DS w wx) ∧ Hid (Blk wx g 45 (suC X)) ∧ Hid (w.heap.size < g))
  case first =>
    have E0 : Hid (DS w v.drew) := ⟨E.out.1.drew, E.out.2.drew⟩
    clear E
    refine wp_region_plan (fun U => Hid (DS w U)) (.yield [0, 4, 7, 9, 13, 15] 1 (.yield [] 5 (.yield [] 10 (.yield [] 16 (.fork 2 20 (.yield [] 3 (.fork 6 20 (.fork 8 20 (.fork 11 20 (.yield [] 12 (.fork 14 20 (.fork 17 20 (.yield [] 18 (.fork 19 20 (.force [] 20 (.force [] 21 (.fin []))) (.force [] 19 (.force [] 21 (.fin []))))) (.force [] 17 (.yield [] 18 (.force [] 19 (.force [] 21 (.fin [])))))) (.force [] 14 (.force [] 17 (.yield [] 18 (.force [] 19 (.force [] 21 (.fin [])))))))) (.force [] 11 (.yield [] 12 (.force [] 14 (.force [] 17 (.yield [] 18 (.force [] 19 (.force [] 21 (.fin []))))))))) (.force [] 8 (.force [] 11 (.yield [] 12 (.force [] 14 (.force [] 17 (.yield [] 18 (.force [] 19 (.force [] 21 (.fin [])))))))))) (.force [] 6 (.force [] 8 (.force [] 11 (.yield [] 12 (.force [] 14 (.force [] 17 (.yield [] 18 (.force [] 19 (.force [] 21 (.fin [])))))))))))) (.force [] 2 (.yield [] 3 (.force [] 6 (.force [] 8 (.force [] 11 (.yield [] 12 (.force [] 14 (.force [] 17 (.yield [] 18 (.force [] 19 (.force [] 21 (.fin []))))))))))))))))) (by kernel_rfl) (by kernel_rfl) E0 (plan_yield ?_)
    generalize v.drew = vd at *
    simp only [List.cons_append, List.nil_append, List.append_nil, List.filterMap_cons, List.filterMap_nil, List.getElem?_toArray, List.getElem?_cons_zero, List.getElem?_cons_succ]
    go_wp2_with fail
    refine ⟨rfl, _, .string (s.extract 8 12), rfl, Or.inl ⟨by rfl, fun W hW => by go_simp⟩, plan_yield ?_⟩
    simp only [Act.put, List.setIfInBounds_toArray, List.set_cons_zero, List.set_cons_succ]
    simp only [List.cons_append, List.nil_append, List.append_nil, List.filterMap_cons, List.filterMap_nil, List.getElem?_toArray, List.getElem?_cons_zero, List.getElem?_cons_succ]
    go_wp2_with fail
    refine ⟨rfl, _, .string (s.extract 16 24), rfl, Or.inl ⟨by rfl, fun W hW => by go_simp⟩, plan_yield ?_⟩
    simp only [Act.put, List.setIfInBounds_toArray, List.set_cons_zero, List.set_cons_succ]
    simp only [List.cons_append, List.nil_append, List.append_nil, List.filterMap_cons, List.filterMap_nil, List.getElem?_toArray, List.getElem?_cons_zero, List.getElem?_cons_succ]
    go_wp2_with fail
    refine ⟨rfl, _, .string (s.extract 28 32), rfl, Or.inl ⟨by rfl, fun W hW => by go_simp⟩, plan_yield ?_⟩
    simp only [Act.put, List.setIfInBounds_toArray, List.set_cons_zero, List.set_cons_succ]
    simp only [List.cons_append, List.nil_append, List.append_nil, List.filterMap_cons, List.filterMap_nil, List.getElem?_toArray, List.getElem?_cons_zero, List.getElem?_cons_succ]
    go_wp2_with fail
    refine ⟨rfl, _, .string (s.extract 108 112), rfl, Or.inl ⟨by rfl, fun W hW => by go_simp⟩, plan_fork ?_ ?_⟩
    simp only [Act.put, List.setIfInBounds_toArray, List.set_cons_zero, List.set_cons_succ]
    · simp only [List.cons_append, List.nil_append, List.append_nil, List.filterMap_cons, List.filterMap_nil, List.getElem?_toArray, List.getElem?_cons_zero, List.getElem?_cons_succ]
      go_wp2_with fail
      refine (C8.out _).mono ?_
      rintro e y2 ⟨rfl, hy2⟩
      subst y2
      go_wp2_with fail
      refine ⟨rfl, E0, plan_yield ?_⟩
      simp only [List.cons_append, List.nil_append, List.append_nil, List.filterMap_cons, List.filterMap_nil, List.getElem?_toArray, List.getElem?_cons_zero, List.getElem?_cons_succ]
      go_wp2_with fail
      refine ⟨rfl, _, .int .i64 X.b, rfl, Or.inl ⟨by rfl, fun W hW => by go_simp⟩, plan_fork ?_ ?_⟩
      simp only [Act.put, List.setIfInBounds_toArray, List.set_cons_zero, List.set_cons_succ]
      · simp only [List.cons_append, List.nil_append, List.append_nil, List.filterMap_cons, List.filterMap_nil, List.getElem?_toArray, List.getElem?_cons_zero, List.getElem?_cons_succ]
        go_wp2_with fail
        refine (C16.out _).mono ?_
        rintro e y4 ⟨rfl, hy4⟩
        subst y4
        go_wp2_with fail
        refine ⟨rfl, E0, plan_fork ?_ ?_⟩
        · simp only [List.cons_append, List.nil_append, List.append_nil, List.filterMap_cons, List.filterMap_nil, List.getElem?_toArray, List.getElem?_cons_zero, List.getElem?_cons_succ]
          go_wp2_with fail
          refine (T24.out _).mono ?_
          rintro e y6 ⟨rfl, hy6⟩
          have E6 : Hid (DS w y6) := E0.out.below hy6
          clear hy6
          go_wp2_with fail
          refine ⟨rfl, E6, plan_fork ?_ ?_⟩
          · simp only [List.cons_append, List.nil_append, List.append_nil, List.filterMap_cons, List.filterMap_nil, List.getElem?_toArray, List.getElem?_cons_zero, List.getElem?_cons_succ]
            go_wp2_with fail
            refine (C28.out _).mono ?_
            rintro e y8 ⟨rfl, hy8⟩
            subst y8
            go_wp2_with fail
            refine ⟨rfl, E6, plan_yield ?_⟩
            simp only [List.cons_append, List.nil_append, List.append_nil, List.filterMap_cons, List.filterMap_nil, List.getElem?_toArray, List.getElem?_cons_zero, List.getElem?_cons_succ]
            go_wp2_with fail
            refine ⟨rfl, _, .int .i64 X.n, rfl, Or.inl ⟨by rfl, fun W hW => by go_simp⟩, plan_fork ?_ ?_⟩
            simp only [Act.put, List.setIfInBounds_toArray, List.set_cons_zero, List.set_cons_succ]
            · simp only [List.cons_append, List.nil_append, List.append_nil, List.filterMap_cons, List.filterMap_nil, List.getElem?_toArray, List.getElem?_cons_zero, List.getElem?_cons_succ]
              go_wp2_with fail
              refine (T68.out _).mono ?_
              rintro e y10 ⟨rfl, hy10⟩
              have E10 : Hid (DS w y10) := E6.out.below hy10
              clear hy10
              go_wp2_with fail
              refine ⟨rfl, E10, plan_fork ?_ ?_⟩
              · simp only [List.cons_append, List.nil_append, List.append_nil, List.filterMap_cons, List.filterMap_nil, List.getElem?_toArray, List.getElem?_cons_zero, List.getElem?_cons_succ]
                go_wp2_with fail
                refine (C108.out _).mono ?_
                rintro e y12 ⟨rfl, hy12⟩
                subst y12
                go_wp2_with fail
                refine ⟨rfl, E10, plan_yield ?_⟩
                simp only [List.cons_append, List.nil_append, List.append_nil, List.filterMap_cons, List.filterMap_nil, List.getElem?_toArray, List.getElem?_cons_zero, List.getElem?_cons_succ]
                go_wp2_with fail
                refine ⟨rfl, _, .int .i64 X.u, rfl, Or.inl ⟨by rfl, fun W hW => by go_simp⟩, plan_fork ?_ ?_⟩
                simp only [Act.put, List.setIfInBounds_toArray, List.set_cons_zero, List.set_cons_succ]
                · simp only [List.cons_append, List.nil_append, List.append_nil, List.filterMap_cons, List.filterMap_nil, List.getElem?_toArray, List.getElem?_cons_zero, List.getElem?_cons_succ]
                  refine su_build6 (by rfl) 45 _ _ _ _ _ _ (by rfl) _ _ _ _ _ _ (by rfl) (by rfl) (by rfl) (by rfl) (by rfl) (by rfl) (suC X) (by exact hbs) ?_
                  simp only [Act.put, List.setIfInBounds_toArray, List.set_cons_zero, List.set_cons_succ]
                  go_wp2_with fail
                  refine ⟨rfl, E10, plan_force ?_⟩
                  simp only [List.cons_append, List.nil_append, List.append_nil, List.filterMap_cons, List.filterMap_nil, List.getElem?_toArray, List.getElem?_cons_zero, List.getElem?_cons_succ]
                  have E13 : Hid (DS w (y10.alloc (.cells (suC su0) 45))) := E10.out.new.1
                  have A13 : Hid (DA w (y10.alloc (.cells (suC su0) 45)) y10.heap.size) := E10.out.new.2
                  go_wp2_with fail
                  generalize (y10.alloc (.cells (suC su0) 45)) = z13 at *
                  generalize y10.heap.size = g13 at *
                  refine ⟨rfl, E13, plan_force ?_⟩
                  simp only [List.cons_append, List.nil_append, List.append_nil, List.filterMap_cons, List.filterMap_nil, List.getElem?_toArray, List.getElem?_cons_zero, List.getElem?_cons_succ]
                  have hst := Blk.store (P := Try.prog) A13.out.1 (suC X) (by simp only [suC_size]) (fun v hv => Array.all_eq_true'.1 (suC_all X) v (Array.mem_toList_iff.1 hv))
                  have hvs := suC_size X
                  go_wp2_with fail
                  refine ⟨rfl, (E13.out.fill A13.out (suC X)).1, plan_fin ?_⟩
                  simp only [List.cons_append, List.nil_append, List.append_nil, List.filterMap_cons, List.filterMap_nil, List.getElem?_toArray, List.getElem?_cons_zero, List.getElem?_cons_succ]
                  go_wp2_with fail
                  refine ⟨rfl, ?_⟩
                  go_wp2_with fail
                  go_meet
                  exact ⟨g13, rfl, (E13.out.fill A13.out (suC X)).1, (E13.out.fill A13.out (suC X)).2, A13.out.2⟩
                · simp only [List.cons_append, List.nil_append, List.append_nil, List.filterMap_cons, List.filterMap_nil, List.getElem?_toArray, List.getElem?_cons_zero, List.getElem?_cons_succ]
                  have E15 : Hid (DS w (y10.alloc (.cells (suC su0) 45))) := E10.out.new.1
                  have A15 : Hid (DA w (y10.alloc (.cells (suC su0) 45)) y10.heap.size) := E10.out.new.2
                  go_wp2_with fail
                  generalize (y10.alloc (.cells (suC su0) 45)) = z15 at *
                  generalize y10.heap.size = g15 at *
                  refine ⟨rfl, E15, plan_force ?_⟩
                  simp only [List.cons_append, List.nil_append, List.append_nil, List.filterMap_cons, List.filterMap_nil, List.getElem?_toArray, List.getElem?_cons_zero, List.getElem?_cons_succ]
                  refine su_build6 (by rfl) 45 _ _ _ _ _ _ (by rfl) _ _ _ _ _ _ (by rfl) (by rfl) (by rfl) (by rfl) (by rfl) (by rfl) (suC X) (by exact hbs) ?_
                  simp only [Act.put, List.setIfInBounds_toArray, List.set_cons_zero, List.set_cons_succ]
                  go_wp2_with fail
                  refine ⟨rfl, E15, plan_force ?_⟩
                  simp only [List.cons_append, List.nil_append, List.append_nil, List.filterMap_cons, List.filterMap_nil, List.getElem?_toArray, List.getElem?_cons_zero, List.getElem?_cons_succ]
                  have hst := Blk.store (P := Try.prog) A15.out.1 (suC X) (by simp only [suC_size]) (fun v hv => Array.all_eq_true'.1 (suC_all X) v (Array.mem_toList_iff.1 hv))
                  have hvs := suC_size X
                  go_wp2_with fail
                  refine ⟨rfl, (E15.out.fill A15.out (suC X)).1, plan_fin ?_⟩
                  simp only [List.cons_append, List.nil_append, List.append_nil, List.filterMap_cons, List.filterMap_nil, List.getElem?_toArray, List.getElem?_cons_zero, List.getElem?_cons_succ]
                  go_wp2_with fail
                  refine ⟨rfl, ?_⟩
                  go_wp2_with fail
                  go_meet
                  exact ⟨g15, rfl, (E15.out.fill A15.out (suC X)).1, (E15.out.fill A15.out (suC X)).2, A15.out.2⟩
              · simp only [List.cons_append, List.nil_append, List.append_nil, List.filterMap_cons, List.filterMap_nil, List.getElem?_toArray, List.getElem?_cons_zero, List.getElem?_cons_succ]
                have E11 : Hid (DS w (y10.alloc (.cells (suC su0) 45))) := E10.out.new.1
                have A11 : Hid (DA w (y10.alloc (.cells (suC su0) 45)) y10.heap.size) := E10.out.new.2
                go_wp2_with fail
                generalize (y10.alloc (.cells (suC su0) 45)) = z11 at *
                generalize y10.heap.size = g11 at *
                refine ⟨rfl, E11, plan_force ?_⟩
                simp only [List.cons_append, List.nil_append, List.append_nil, List.filterMap_cons, List.filterMap_nil, List.getElem?_toArray, List.getElem?_cons_zero, List.getElem?_cons_succ]
                go_wp2_with fail
                refine (C108.out _).mono ?_
                rintro e y17 ⟨rfl, hy17⟩
                subst y17
                go_wp2_with fail
                refine ⟨rfl, E11, plan_yield ?_⟩
                simp only [List.cons_append, List.nil_append, List.append_nil, List.filterMap_cons, List.filterMap_nil, List.getElem?_toArray, List.getElem?_cons_zero, List.getElem?_cons_succ]
                go_wp2_with fail
                refine ⟨rfl, _, .int .i64 X.u, rfl, Or.inl ⟨by rfl, fun W hW => by go_simp⟩, plan_force ?_⟩
                simp only [Act.put, List.setIfInBounds_toArray, List.set_cons_zero, List.set_cons_succ]
                simp only [List.cons_append, List.nil_append, List.append_nil, List.filterMap_cons, List.filterMap_nil, List.getElem?_toArray, List.getElem?_cons_zero, List.getElem?_cons_succ]
                refine su_build6 (by rfl) 45 _ _ _ _ _ _ (by rfl) _ _ _ _ _ _ (by rfl) (by rfl) (by rfl) (by rfl) (by rfl) (by rfl) (suC X) (by exact hbs) ?_
                simp only [Act.put, List.setIfInBounds_toArray, List.set_cons_zero, List.set_cons_succ]
                go_wp2_with fail
                refine ⟨rfl, E11, plan_force ?_⟩
                simp only [List.cons_append, List.nil_append, List.append_nil, List.filterMap_cons, List.filterMap_nil, List.getElem?_toArray, List.getElem?_cons_zero, List.getElem?_cons_succ]
                have hst := Blk.store (P := Try.prog) A11.out.1 (suC X) (by simp only [suC_size]) (fun v hv => Array.all_eq_true'.1 (suC_all X) v (Array.mem_toList_iff.1 hv))
                have hvs := suC_size X
                go_wp2_with fail
                refine ⟨rfl, (E11.out.fill A11.out (suC X)).1, plan_fin ?_⟩
                simp only [List.cons_append, List.nil_append, List.append_nil, List.filterMap_cons, List.filterMap_nil, List.getElem?_toArray, List.getElem?_cons_zero, List.getElem?_cons_succ]
                go_wp2_with fail
                refine ⟨rfl, ?_⟩
                go_wp2_with fail
                go_meet
                exact ⟨g11, rfl, (E11.out.fill A11.out (suC X)).1, (E11.out.fill A11.out (suC X)).2, A11.out.2⟩
            · simp only [List.cons_append, List.nil_append, List.append_nil, List.filterMap_cons, List.filterMap_nil, List.getElem?_toArray, List.getElem?_cons_zero, List.getElem?_cons_succ]
              have E9 : Hid (DS w (y6.alloc (.cells (suC su0) 45))) := E6.out.new.1
              have A9 : Hid (DA w (y6.alloc (.cells (suC su0) 45)) y6.heap.size) := E6.out.new.2
              go_wp2_with fail
              generalize (y6.alloc (.cells (suC su0) 45)) = z9 at *
              generalize y6.heap.size = g9 at *
              refine ⟨rfl, E9, plan_force ?_⟩
              simp only [List.cons_append, List.nil_append, List.append_nil, List.filterMap_cons, List.filterMap_nil, List.getElem?_toArray, List.getElem?_cons_zero, List.getElem?_cons_succ]
              go_wp2_with fail
              refine (T68.out _).mono ?_
              rintro e y19 ⟨rfl, hy19⟩
              have E19 : Hid (DS w y19) := E9.out.below hy19
              have A19 : Hid (DA w y19 g9) := A9.out.below hy19
              clear hy19
              go_wp2_with fail
              refine ⟨rfl, E19, plan_force ?_⟩
              simp only [List.cons_append, List.nil_append, List.append_nil, List.filterMap_cons, List.filterMap_nil, List.getElem?_toArray, List.getElem?_cons_zero, List.getElem?_cons_succ]
              go_wp2_with fail
              refine (C108.out _).mono ?_
              rintro e y20 ⟨rfl, hy20⟩
              subst y20
              go_wp2_with fail
              refine ⟨rfl, E19, plan_yield ?_⟩
              simp only [List.cons_append, List.nil_append, List.append_nil, List.filterMap_cons, List.filterMap_nil, List.getElem?_toArray, List.getElem?_cons_zero, List.getElem?_cons_succ]
              go_wp2_with fail
              refine ⟨rfl, _, .int .i64 X.u, rfl, Or.inl ⟨by rfl, fun W hW => by go_simp⟩, plan_force ?_⟩
              simp only [Act.put, List.setIfInBounds_toArray, List.set_cons_zero, List.set_cons_succ]
              simp only [List.cons_append, List.nil_append, List.append_nil, List.filterMap_cons, List.filterMap_nil, List.getElem?_toArray, List.getElem?_cons_zero, List.getElem?_cons_succ]
              refine su_build6 (by rfl) 45 _ _ _ _ _ _ (by rfl) _ _ _ _ _ _ (by rfl) (by rfl) (by rfl) (by rfl) (by rfl) (by rfl) (suC X) (by exact hbs) ?_
              simp only [Act.put, List.setIfInBounds_toArray, List.set_cons_zero, List.set_cons_succ]
              go_wp2_with fail
              refine ⟨rfl, E19, plan_force ?_⟩
              simp only [List.cons_append, List.nil_append, List.append_nil, List.filterMap_cons, List.filterMap_nil, List.getElem?_toArray, List.getElem?_cons_zero, List.getElem?_cons_succ]
              have hst := Blk.store (P := Try.prog) A19.out.1 (suC X) (by simp only [suC_size]) (fun v hv => Array.all_eq_true'.1 (suC_all X) v (Array.mem_toList_iff.1 hv))
              have hvs := suC_size X
              go_wp2_with fail
              refine ⟨rfl, (E19.out.fill A19.out (suC X)).1, plan_fin ?_⟩
              simp only [List.cons_append, List.nil_append, List.append_nil, List.filterMap_cons, List.filterMap_nil, List.getElem?_toArray, List.getElem?_cons_zero, List.getElem?_cons_succ]
              go_wp2_with fail
              refine ⟨rfl, ?_⟩
              go_wp2_with fail
              go_meet
              exact ⟨g9, rfl, (E19.out.fill A19.out (suC X)).1, (E19.out.fill A19.out (suC X)).2, A19.out.2⟩
          · simp only [List.cons_append, List.nil_append, List.append_nil, List.filterMap_cons, List.filterMap_nil, List.getElem?_toArray, List.getElem?_cons_zero, List.getElem?_cons_succ]
            have E7 : Hid (DS w (y6.alloc (.cells (suC su0) 45))) := E6.out.new.1
            have A7 : Hid (DA w (y6.alloc (.cells (suC su0) 45)) y6.heap.size) := E6.out.new.2
            go_wp2_with fail
            generalize (y6.alloc (.cells (suC su0) 45)) = z7 at *
            generalize y6.heap.size = g7 at *
            refine ⟨rfl, E7, plan_force ?_⟩
            simp only [List.cons_append, List.nil_append, List.append_nil, List.filterMap_cons, List.filterMap_nil, List.getElem?_toArray, List.getElem?_cons_zero, List.getElem?_cons_succ]
            go_wp2_with fail
            refine (C28.out _).mono ?_
            rintro e y22 ⟨rfl, hy22⟩
            subst y22
            go_wp2_with fail
            refine ⟨rfl, E7, plan_yield ?_⟩
            simp only [List.cons_append, List.nil_append, List.append_nil, List.filterMap_cons, List.filterMap_nil, List.getElem?_toArray, List.getElem?_cons_zero, List.getElem?_cons_succ]
            go_wp2_with fail
            refine ⟨rfl, _, .int .i64 X.n, rfl, Or.inl ⟨by rfl, fun W hW => by go_simp⟩, plan_force ?_⟩
            simp only [Act.put, List.setIfInBounds_toArray, List.set_cons_zero, List.set_cons_succ]
            simp only [List.cons_append, List.nil_append, List.append_nil, List.filterMap_cons, List.filterMap_nil, List.getElem?_toArray, List.getElem?_cons_zero, List.getElem?_cons_succ]
            go_wp2_with fail
            refine (T68.out _).mono ?_
            rintro e y23 ⟨rfl, hy23⟩
            have E23 : Hid (DS w y23) := E7.out.below hy23
            have A23 : Hid (DA w y23 g7) := A7.out.below hy23
            clear hy23
            go_wp2_with fail
            refine ⟨rfl, E23, plan_force ?_⟩
            simp only [List.cons_append, List.nil_append, List.append_nil, List.filterMap_cons, List.filterMap_nil, List.getElem?_toArray, List.getElem?_cons_zero, List.getElem?_cons_succ]
            go_wp2_with fail
            refine (C108.out _).mono ?_
            rintro e y24 ⟨rfl, hy24⟩
            subst y24
            go_wp2_with fail
            refine ⟨rfl, E23, plan_yield ?_⟩
            simp only [List.cons_append, List.nil_append, List.append_nil, List.filterMap_cons, List.filterMap_nil, List.getElem?_toArray, List.getElem?_cons_zero, List.getElem?_cons_succ]
            go_wp2_with fail
            refine ⟨rfl, _, .int .i64 X.u, rfl, Or.inl ⟨by rfl, fun W hW => by go_simp⟩, plan_force ?_⟩
            simp only [Act.put, List.setIfInBounds_toArray, List.set_cons_zero, List.set_cons_succ]
            simp only [List.cons_append, List.nil_append, List.append_nil, List.filterMap_cons, List.filterMap_nil, List.getElem?_toArray, List.getElem?_cons_zero, List.getElem?_cons_succ]
            refine su_build6 (by rfl) 45 _ _ _ _ _ _ (by rfl) _ _ _ _ _ _ (by rfl) (by rfl) (by rfl) (by rfl) (by rfl) (by rfl) (suC X) (by exact hbs) ?_
            simp only [Act.put, List.setIfInBounds_toArray, List.set_cons_zero, List.set_cons_succ]
            go_wp2_with fail
            refine ⟨rfl, E23, plan_force ?_⟩
            simp only [List.cons_append, List.nil_append, List.append_nil, List.filterMap_cons, List.filterMap_nil, List.getElem?_toArray, List.getElem?_cons_zero, List.getElem?_cons_succ]
            have hst := Blk.store (P := Try.prog) A23.out.1 (suC X) (by simp only [suC_size]) (fun v hv => Array.all_eq_true'.1 (suC_all X) v (Array.mem_toList_iff.1 hv))
            have hvs := suC_size X
            go_wp2_with fail
            refine ⟨rfl, (E23.out.fill A23.out (suC X)).1, plan_fin ?_⟩
            simp only [List.cons_append, List.nil_append, List.append_nil, List.filterMap_cons, List.filterMap_nil, List.getElem?_toArray, List.getElem?_cons_zero, List.getElem?_cons_succ]
            go_wp2_with fail
            refine ⟨rfl, ?_⟩
            go_wp2_with fail
            go_meet
            exact ⟨g7, rfl, (E23.out.fill A23.out (suC X)).1, (E23.out.fill A23.out (suC X)).2, A23.out.2⟩
        · simp only [List.cons_append, List.nil_append, List.append_nil, List.filterMap_cons, List.filterMap_nil, List.getElem?_toArray, List.getElem?_cons_zero, List.getElem?_cons_succ]
          have E5 : Hid (DS w (vd.alloc (.cells (suC su0) 45))) := E0.out.new.1
          have A5 : Hid (DA w (vd.alloc (.cells (suC su0) 45)) vd.heap.size) := E0.out.new.2
          go_wp2_with fail
          generalize (vd.alloc (.cells (suC su0) 45)) = z5 at *
          generalize vd.heap.size = g5 at *
          refine ⟨rfl, E5, plan_force ?_⟩
          simp only [List.cons_append, List.nil_append, List.append_nil, List.filterMap_cons, List.filterMap_nil, List.getElem?_toArray, List.getElem?_cons_zero, List.getElem?_cons_succ]
          go_wp2_with fail
          refine (T24.out _).mono ?_
          rintro e y26 ⟨rfl, hy26⟩
          have E26 : Hid (DS w y26) := E5.out.below hy26
          have A26 : Hid (DA w y26 g5) := A5.out.below hy26
          clear hy26
          go_wp2_with fail
          refine ⟨rfl, E26, plan_force ?_⟩
          simp only [List.cons_append, List.nil_append, List.append_nil, List.filterMap_cons, List.filterMap_nil, List.getElem?_toArray, List.getElem?_cons_zero, List.getElem?_cons_succ]
          go_wp2_with fail
          refine (C28.out _).mono ?_
          rintro e y27 ⟨rfl, hy27⟩
          subst y27
          go_wp2_with fail
          refine ⟨rfl, E26, plan_yield ?_⟩
          simp only [List.cons_append, List.nil_append, List.append_nil, List.filterMap_cons, List.filterMap_nil, List.getElem?_toArray, List.getElem?_cons_zero, List.getElem?_cons_succ]
          go_wp2_with fail
          refine ⟨rfl, _, .int .i64 X.n, rfl, Or.inl ⟨by rfl, fun W hW => by go_simp⟩, plan_force ?_⟩
          simp only [Act.put, List.setIfInBounds_toArray, List.set_cons_zero, List.set_cons_succ]
          simp only [List.cons_append, List.nil_append, List.append_nil, List.filterMap_cons, List.filterMap_nil, List.getElem?_toArray, List.getElem?_cons_zero, List.getElem?_cons_succ]
          go_wp2_with fail
          refine (T68.out _).mono ?_
          rintro e y28 ⟨rfl, hy28⟩
          have E28 : Hid (DS w y28) := E26.out.below hy28
          have A28 : Hid (DA w y28 g5) := A26.out.below hy28
          clear hy28
          go_wp2_with fail
          refine ⟨rfl, E28, plan_force ?_⟩
          simp only [List.cons_append, List.nil_append, List.append_nil, List.filterMap_cons, List.filterMap_nil, List.getElem?_toArray, List.getElem?_cons_zero, List.getElem?_cons_succ]
          go_wp2_with fail
          refine (C108.out _).mono ?_
          rintro e y29 ⟨rfl, hy29⟩
          subst y29
          go_wp2_with fail
          refine ⟨rfl, E28, plan_yield ?_⟩
          simp only [List.cons_append, List.nil_append, List.append_nil, List.filterMap_cons, List.filterMap_nil, List.getElem?_toArray, List.getElem?_cons_zero, List.getElem?_cons_succ]
          go_wp2_with fail
          refine ⟨rfl, _, .int .i64 X.u, rfl, Or.inl ⟨by rfl, fun W hW => by go_simp⟩, plan_force ?_⟩
          simp only [Act.put, List.setIfInBounds_toArray, List.set_cons_zero, List.set_cons_succ]
          simp only [List.cons_append, List.nil_append, List.append_nil, List.filterMap_cons, List.filterMap_nil, List.getElem?_toArray, List.getElem?_cons_zero, List.getElem?_cons_succ]
          refine su_build6 (by rfl) 45 _ _ _ _ _ _ (by rfl) _ _ _ _ _ _ (by rfl) (by rfl) (by rfl) (by rfl) (by rfl) (by rfl) (suC X) (by exact hbs) ?_
          simp only [Act.put, List.setIfInBounds_toArray, List.set_cons_zero, List.set_cons_succ]
          go_wp2_with fail
          refine ⟨rfl, E28, plan_force ?_⟩
          simp only [List.cons_append, List.nil_append, List.append_nil, List.filterMap_cons, List.filterMap_nil, List.getElem?_toArray, List.getElem?_cons_zero, List.getElem?_cons_succ]
          have hst := Blk.store (P := Try.prog) A28.out.1 (suC X) (by simp only [suC_size]) (fun v hv => Array.all_eq_true'.1 (suC_all X) v (Array.mem_toList_iff.1 hv))
          have hvs := suC_size X
          go_wp2_with fail
          refine ⟨rfl, (E28.out.fill A28.out (suC X)).1, plan_fin ?_⟩
          simp only [List.cons_append, List.nil_append, List.append_nil, List.filterMap_cons, List.filterMap_nil, List.getElem?_toArray, List.getElem?_cons_zero, List.getElem?_cons_succ]
          go_wp2_with fail
          refine ⟨rfl, ?_⟩
          go_wp2_with fail
          go_meet
          exact ⟨g5, rfl, (E28.out.fill A28.out (suC X)).1, (E28.out.fill A28.out (suC X)).2, A28.out.2⟩
      · simp only [List.cons_append, List.nil_append, List.append_nil, List.filterMap_cons, List.filterMap_nil, List.getElem?_toArray, List.getElem?_cons_zero, List.getElem?_cons_succ]
        have E3 : Hid (DS w (vd.alloc (.cells (suC su0) 45))) := E0.out.new.1
        have A3 : Hid (DA w (vd.alloc (.cells (suC su0) 45)) vd.heap.size) := E0.out.new.2
        go_wp2_with fail
        generalize (vd.alloc (.cells (suC su0) 45)) = z3 at *
        generalize vd.heap.size = g3 at *
        refine ⟨rfl, E3, plan_force ?_⟩
        simp only [List.cons_append, List.nil_append, List.append_nil, List.filterMap_cons, List.filterMap_nil, List.getElem?_toArray, List.getElem?_cons_zero, List.getElem?_cons_succ]
        go_wp2_with fail
        refine (C16.out _).mono ?_
        rintro e y31 ⟨rfl, hy31⟩
        subst y31
        go_wp2_with fail
        refine ⟨rfl, E3, plan_force ?_⟩
        simp only [List.cons_append, List.nil_append, List.append_nil, List.filterMap_cons, List.filterMap_nil, List.getElem?_toArray, List.getElem?_cons_zero, List.getElem?_cons_succ]
        go_wp2_with fail
        refine (T24.out _).mono ?_
        rintro e y32 ⟨rfl, hy32⟩
        have E32 : Hid (DS w y32) := E3.out.below hy32
        have A32 : Hid (DA w y32 g3) := A3.out.below hy32
        clear hy32
        go_wp2_with fail
        refine ⟨rfl, E32, plan_force ?_⟩
        simp only [List.cons_append, List.nil_append, List.append_nil, List.filterMap_cons, List.filterMap_nil, List.getElem?_toArray, List.getElem?_cons_zero, List.getElem?_cons_succ]
        go_wp2_with fail
        refine (C28.out _).mono ?_
        rintro e y33 ⟨rfl, hy33⟩
        subst y33
        go_wp2_with fail
        refine ⟨rfl, E32, plan_yield ?_⟩
        simp only [List.cons_append, List.nil_append, List.append_nil, List.filterMap_cons, List.filterMap_nil, List.getElem?_toArray, List.getElem?_cons_zero, List.getElem?_cons_succ]
        go_wp2_with fail
        refine ⟨rfl, _, .int .i64 X.n, rfl, Or.inl ⟨by rfl, fun W hW => by go_simp⟩, plan_force ?_⟩
        simp only [Act.put, List.setIfInBounds_toArray, List.set_cons_zero, List.set_cons_succ]
        simp only [List.cons_append, List.nil_append, List.append_nil, List.filterMap_cons, List.filterMap_nil, List.getElem?_toArray, List.getElem?_cons_zero, List.getElem?_cons_succ]
        go_wp2_with fail
        refine (T68.out _).mono ?_
        rintro e y34 ⟨rfl, hy34⟩
        have E34 : Hid (DS w y34) := E32.out.below hy34
        have A34 : Hid (DA w y34 g3) := A32.out.below hy34
        clear hy34
        go_wp2_with fail
        refine ⟨rfl, E34, plan_force ?_⟩
        simp only [List.cons_append, List.nil_append, List.append_nil, List.filterMap_cons, List.filterMap_nil, List.getElem?_toArray, List.getElem?_cons_zero, List.getElem?_cons_succ]
        go_wp2_with fail
        refine (C108.out _).mono ?_
        rintro e y35 ⟨rfl, hy35⟩
        subst y35
        go_wp2_with fail
        refine ⟨rfl, E34, plan_yield ?_⟩
        simp only [List.cons_append, List.nil_append, List.append_nil, List.filterMap_cons, List.filterMap_nil, List.getElem?_toArray, List.getElem?_cons_zero, List.getElem?_cons_succ]
        go_wp2_with fail
        refine ⟨rfl, _, .int .i64 X.u, rfl, Or.inl ⟨by rfl, fun W hW => by go_simp⟩, plan_force ?_⟩
        simp only [Act.put, List.setIfInBounds_toArray, List.set_cons_zero, List.set_cons_succ]
        simp only [List.cons_append, List.nil_append, List.append_nil, List.filterMap_cons, List.filterMap_nil, List.getElem?_toArray, List.getElem?_cons_zero, List.getElem?_cons_succ]
        refine su_build6 (by rfl) 45 _ _ _ _ _ _ (by rfl) _ _ _ _ _ _ (by rfl) (by rfl) (by rfl) (by rfl) (by rfl) (by rfl) (suC X) (by exact hbs) ?_
        simp only [Act.put, List.setIfInBounds_toArray, List.set_cons_zero, List.set_cons_succ]
        go_wp2_with fail
        refine ⟨rfl, E34, plan_force ?_⟩
        simp only [List.cons_append, List.nil_append, List.append_nil, List.filterMap_cons, List.filterMap_nil, List.getElem?_toArray, List.getElem?_cons_zero, List.getElem?_cons_succ]
        have hst := Blk.store (P := Try.prog) A34.out.1 (suC X) (by simp only [suC_size]) (fun v hv => Array.all_eq_true'.1 (suC_all X) v (Array.mem_toList_iff.1 hv))
        have hvs := suC_size X
        go_wp2_with fail
        refine ⟨rfl, (E34.out.fill A34.out (suC X)).1, plan_fin ?_⟩
        simp only [List.cons_append, List.nil_append, List.append_nil, List.filterMap_cons, List.filterMap_nil, List.getElem?_toArray, List.getElem?_cons_zero, List.getElem?_cons_succ]
        go_wp2_with fail
        refine ⟨rfl, ?_⟩
        go_wp2_with fail
        go_meet
        exact ⟨g3, rfl, (E34.out.fill A34.out (suC X)).1, (E34.out.fill A34.out (suC X)).2, A34.out.2⟩
    · simp only [List.cons_append, List.nil_append, List.append_nil, List.filterMap_cons, List.filterMap_nil, List.getElem?_toArray, List.getElem?_cons_zero, List.getElem?_cons_succ]
      have E1 : Hid (DS w (vd.alloc (.cells (suC su0) 45))) := E0.out.new.1
      have A1 : Hid (DA w (vd.alloc (.cells (suC su0) 45)) vd.heap.size) := E0.out.new.2
      go_wp2_with fail
      generalize (vd.alloc (.cells (suC su0) 45)) = z1 at *
      generalize vd.heap.size = g1 at *
      refine ⟨rfl, E1, plan_force ?_⟩
      simp only [List.cons_append, List.nil_append, List.append_nil, List.filterMap_cons, List.filterMap_nil, List.getElem?_toArray, List.getElem?_cons_zero, List.getElem?_cons_succ]
      go_wp2_with fail
      refine (C8.out _).mono ?_
      rintro e y37 ⟨rfl, hy37⟩
      subst y37
      go_wp2_with fail
      refine ⟨rfl, E1, plan_yield ?_⟩
      simp only [List.cons_append, List.nil_append, List.append_nil, List.filterMap_cons, List.filterMap_nil, List.getElem?_toArray, List.getElem?_cons_zero, List.getElem?_cons_succ]
      go_wp2_with fail
      refine ⟨rfl, _, .int .i64 X.b, rfl, Or.inl ⟨by rfl, fun W hW => by go_simp⟩, plan_force ?_⟩
      simp only [Act.put, List.setIfInBounds_toArray, List.set_cons_zero, List.set_cons_succ]
      simp only [List.cons_append, List.nil_append, List.append_nil, List.filterMap_cons, List.filterMap_nil, List.getElem?_toArray, List.getElem?_cons_zero, List.getElem?_cons_succ]
      go_wp2_with fail
      refine (C16.out _).mono ?_
      rintro e y38 ⟨rfl, hy38⟩
      subst y38
      go_wp2_with fail
      refine ⟨rfl, E1, plan_force ?_⟩
      simp only [List.cons_append, List.nil_append, List.append_nil, List.filterMap_cons, List.filterMap_nil, List.getElem?_toArray, List.getElem?_cons_zero, List.getElem?_cons_succ]
      go_wp2_with fail
      refine (T24.out _).mono ?_
      rintro e y39 ⟨rfl, hy39⟩
      have E39 : Hid (DS w y39) := E1.out.below hy39
      have A39 : Hid (DA w y39 g1) := A1.out.below hy39
      clear hy39
      go_wp2_with fail
      refine ⟨rfl, E39, plan_force ?_⟩
      simp only [List.cons_append, List.nil_append, List.append_nil, List.filterMap_cons, List.filterMap_nil, List.getElem?_toArray, List.getElem?_cons_zero, List.getElem?_cons_succ]
      go_wp2_with fail
      refine (C28.out _).mono ?_
      rintro e y40 ⟨rfl, hy40⟩
      subst y40
      go_wp2_with fail
      refine ⟨rfl, E39, plan_yield ?_⟩
      simp only [List.cons_append, List.nil_append, List.append_nil, List.filterMap_cons, List.filterMap_nil, List.getElem?_toArray, List.getElem?_cons_zero, List.getElem?_cons_succ]
      go_wp2_with fail
      refine ⟨rfl, _, .int .i64 X.n, rfl, Or.inl ⟨by rfl, fun W hW => by go_simp⟩, plan_force ?_⟩
      simp only [Act.put, List.setIfInBounds_toArray, List.set_cons_zero, List.set_cons_succ]
      simp only [List.cons_append, List.nil_append, List.append_nil, List.filterMap_cons, List.filterMap_nil, List.getElem?_toArray, List.getElem?_cons_zero, List.getElem?_cons_succ]
      go_wp2_with fail
      refine (T68.out _).mono ?_
      rintro e y41 ⟨rfl, hy41⟩
      have E41 : Hid (DS w y41) := E39.out.below hy41
      have A41 : Hid (DA w y41 g1) := A39.out.below hy41
      clear hy41
      go_wp2_with fail
      refine ⟨rfl, E41, plan_force ?_⟩
      simp only [List.cons_append, List.nil_append, List.append_nil, List.filterMap_cons, List.filterMap_nil, List.getElem?_toArray, List.getElem?_cons_zero, List.getElem?_cons_succ]
      go_wp2_with fail
      refine (C108.out _).mono ?_
      rintro e y42 ⟨rfl, hy42⟩
      subst y42
      go_wp2_with fail
      refine ⟨rfl, E41, plan_yield ?_⟩
      simp only [List.cons_append, List.nil_append, List.append_nil, List.filterMap_cons, List.filterMap_nil, List.getElem?_toArray, List.getElem?_cons_zero, List.getElem?_cons_succ]
      go_wp2_with fail
      refine ⟨rfl, _, .int .i64 X.u, rfl, Or.inl ⟨by rfl, fun W hW => by go_simp⟩, plan_force ?_⟩
      simp only [Act.put, List.setIfInBounds_toArray, List.set_cons_zero, List.set_cons_succ]
      simp only [List.cons_append, List.nil_append, List.append_nil, List.filterMap_cons, List.filterMap_nil, List.getElem?_toArray, List.getElem?_cons_zero, List.getElem?_cons_succ]
      refine su_build6 (by rfl) 45 _ _ _ _ _ _ (by rfl) _ _ _ _ _ _ (by rfl) (by rfl) (by rfl) (by rfl) (by rfl) (by rfl) (suC X) (by exact hbs) ?_
      simp only [Act.put, List.setIfInBounds_toArray, List.set_cons_zero, List.set_cons_succ]
      go_wp2_with fail
      refine ⟨rfl, E41, plan_force ?_⟩
      simp only [List.cons_append, List.nil_append, List.append_nil, List.filterMap_cons, List.filterMap_nil, List.getElem?_toArray, List.getElem?_cons_zero, List.getElem?_cons_succ]
      have hst := Blk.store (P := Try.prog) A41.out.1 (suC X) (by simp only [suC_size]) (fun v hv => Array.all_eq_true'.1 (suC_all X) v (Array.mem_toList_iff.1 hv))
      have hvs := suC_size X
      go_wp2_with fail
      refine ⟨rfl, (E41.out.fill A41.out (suC X)).1, plan_fin ?_⟩
      simp only [List.cons_append, List.nil_append, List.append_nil, List.filterMap_cons, List.filterMap_nil, List.getElem?_toArray, List.getElem?_cons_zero, List.getElem?_cons_succ]
      go_wp2_with fail
      refine ⟨rfl, ?_⟩
      go_wp2_with fail
      go_meet
      exact ⟨g1, rfl, (E41.out.fill A41.out (suC X)).1, (E41.out.fill A41.out (suC X)).2, A41.out.2⟩
  case rest =>
    rename World => v2
    obtain ⟨g, rfl, D2, X2, lg⟩ := hcut
    clear E C8 C16 C28 C108 T24 T68 hbs
    go_wp2_with (first | (refine wpList_load_rowg (by rfl) 45 _ (by rfl) (g) (by rfl) 45 (suC (X)) (0, 0) _ (by exact X2.out) Try.underlying45 (by rfl) (sizeRSup.trans (by rw [suC_size])) ?_; simp only [Act.put, List.setIfInBounds_toArray, List.set_cons_zero, List.set_cons_succ]) | fail)
    refine (HE.out _).mono ?_
    rintro e w3 ⟨rfl, hb3⟩
    have D3 : Hid (DS w w3) := D2.out.below hb3
    have X3 : Hid (Blk w3 g 45 (suC X)) := X2.out.below hb3 X2.out.lt
    clear hb3 D2 X2
    have b3 := D3.out.1
    go_wp2_with (first | (refine wpList_buildTo (by rfl) 45 _ (by rfl) _ rfl (suC su0) (by exact built_rsup0) ?_; simp only [Act.put, List.setIfInBounds_toArray, List.set_cons_zero, List.set_cons_succ]) | (refine wpList_store_row (by rfl) 45 _ _ (by rfl) (w.heap.size) (suC (su0)) (by rfl) (by rfl) 45 (_) (by exact b3) (sizeRSup.trans (by rw [suC_size])) (by simp only [suC_size]) (suC_all _) ?_; simp only [Act.put, List.setIfInBounds_toArray, List.set_cons_zero, List.set_cons_succ]) | (refine wpList_load_rowg (by rfl) 45 _ (by rfl) (g) (by rfl) 45 (suC (X)) (0, 0) _ (by exact X3.out) Try.underlying45 (by rfl) (sizeRSup.trans (by rw [suC_size])) ?_; simp only [Act.put, List.setIfInBounds_toArray, List.set_cons_zero, List.set_cons_succ]) | (refine wpList_store_row (by rfl) 45 _ _ (by rfl) (w.heap.size) (suC (X)) (by rfl) (by rfl) 45 (_) (by exact b3) (sizeRSup.trans (by rw [suC_size])) (by simp only [suC_size]) (suC_all _) ?_; simp only [Act.put, List.setIfInBounds_toArray, List.set_cons_zero, List.set_cons_succ]) | fail)
    try simp only [Exit.inBlock, Exit.then]
    refine bodyPost_ret (results_row2 Try.results12 _ _ (w.heap.size) 45 (suC X) (0, 0) _ rfl (b3.set _) Try.underlying45 rfl (sizeRSup.trans (by rw [suC_size]))) rfl ?_
    exact ⟨rfl, below_setRow D3.out.2 (Nat.le_refl _) _⟩
set_option maxRecDepth 100000 in
set_option maxHeartbeats 4000000 in
theorem rsdecode_un (s : ByteArray) (hs : s.size = 256) (hw : SuW (prS s)) (hc : sck (prS s) = true) (hq : ¬ strN (suB (prS s)) 256 = s) (w : World) : Calls Try.prog 12 #[.string s] w fun e w' => e = .returned (.tuple #[.agg (suC su0), .bool false]) ∧ Below w.heap.size w w' := by
  have hz := zero_rsup
  have C8 : Hid (∀ w, Calls Try.prog 32 #[.string (s.extract 8 12)] w fun e w' => e = .returned (.int .u64 (prS s).b) ∧ w' = w) := sval4 s 8 12 rfl (by omega)
  have C16 : Hid (∀ w, Calls Try.prog 32 #[.string (s.extract 16 24)] w fun e w' => e = .returned (.int .u64 ((prS s).c : Int)) ∧ w' = w) := sval8 s 16 24 rfl (by omega)
  have C28 : Hid (∀ w, Calls Try.prog 32 #[.string (s.extract 28 32)] w fun e w' => e = .returned (.int .u64 (prS s).n) ∧ w' = w) := sval4 s 28 32 rfl (by omega)
  have C108 : Hid (∀ w, Calls Try.prog 32 #[.string (s.extract 108 112)] w fun e w' => e = .returned (.int .u64 (prS s).u) ∧ w' = w) := sval4 s 108 112 rfl (by omega)
  have T24 : Hid (∀ w, Calls Try.prog 33 #[.string s, .int .i64 24, .int .i64 32] w fun e w' => e = .returned (.agg (tiC (prS s).th (prS s).tr)) ∧ Below w.heap.size w w') := rtree24 s hs
  have T68 : Hid (∀ w, Calls Try.prog 33 #[.string s, .int .i64 68, .int .i64 72] w fun e w' => e = .returned (.agg (tiC (prS s).mh (prS s).mr)) ∧ Below w.heap.size w w') := rtree68 s hs
  have v1 : IntKind.i64.wrap (prS s).b = (prS s).b := by show IntKind.i64.wrap ((at4 s 8 : Nat) : Int) = ((at4 s 8 : Nat) : Int); have := at4_lt s 8; rw [IntKind.wrap_i64]; omega
  have v2 : IntKind.i64.wrap (prS s).n = (prS s).n := by show IntKind.i64.wrap ((at4 s 28 : Nat) : Int) = ((at4 s 28 : Nat) : Int); have := at4_lt s 28; rw [IntKind.wrap_i64]; omega
  have v3 : IntKind.i64.wrap (prS s).u = (prS s).u := by show IntKind.i64.wrap ((at4 s 108 : Nat) : Int) = ((at4 s 108 : Nat) : Int); have := at4_lt s 108; rw [IntKind.wrap_i64]; omega
  have hbs := sbuilt_rsup (prS s)
  have HE : Hid (∀ w, Calls Try.prog 8 #[.agg (suC (prS s))] w fun e w' => e = .returned (.tuple #[.string (strN (suB (prS s)) 256), .bool true]) ∧ Below w.heap.size w w') := rsencode_ok (prS s) hw hc
  clear hw hc
  generalize strN (suB (prS s)) 256 = TT at *
  have hql : (TT.toList == s.toList) = false := su_neT hq
  clear hq
  generalize prS s = X at *
  have E : Hid (DS w (w.alloc (.cells (suC su0) 45))) := ⟨Blk.new _ _ _, below_new1 _ _⟩
  go_enter Try.func12, Try.ntmps12
  go_wp2_with fail
  generalize (w.alloc (.cells (suC su0) 45)) = v at *
  go_cut [4] (fun u wx => ∃ g, u = .pointer (some ⟨g, 0, none⟩) ∧ Hid (DS w wx) ∧ Hid (Blk wx g 45 (suC X)) ∧ Hid (w.heap.size < g))
  case first =>
    have E0 : Hid (DS w v.drew) := ⟨E.out.1.drew, E.out.2.drew⟩
    clear E
    refine wp_region_plan (fun U => Hid (DS w U)) (.yield [0, 4, 7, 9, 13, 15] 1 (.yield [] 5 (.yield [] 10 (.yield [] 16 (.fork 2 20 (.yield [] 3 (.fork 6 20 (.fork 8 20 (.fork 11 20 (.yield [] 12 (.fork 14 20 (.fork 17 20 (.yield [] 18 (.fork 19 20 (.force [] 20 (.force [] 21 (.fin []))) (.force [] 19 (.force [] 21 (.fin []))))) (.force [] 17 (.yield [] 18 (.force [] 19 (.force [] 21 (.fin [])))))) (.force [] 14 (.force [] 17 (.yield [] 18 (.force [] 19 (.force [] 21 (.fin [])))))))) (.force [] 11 (.yield [] 12 (.force [] 14 (.force [] 17 (.yield [] 18 (.force [] 19 (.force [] 21 (.fin []))))))))) (.force [] 8 (.force [] 11 (.yield [] 12 (.force [] 14 (.force [] 17 (.yield [] 18 (.force [] 19 (.force [] 21 (.fin [])))))))))) (.force [] 6 (.force [] 8 (.force [] 11 (.yield [] 12 (.force [] 14 (.force [] 17 (.yield [] 18 (.force [] 19 (.force [] 21 (.fin [])))))))))))) (.force [] 2 (.yield [] 3 (.force [] 6 (.force [] 8 (.force [] 11 (.yield [] 12 (.force [] 14 (.force [] 17 (.yield [] 18 (.force [] 19 (.force [] 21 (.fin []))))))))))))))))) (by kernel_rfl) (by kernel_rfl) E0 (plan_yield ?_)
    generalize v.drew = vd at *
    simp only [List.cons_append, List.nil_append, List.append_nil, List.filterMap_cons, List.filterMap_nil, List.getElem?_toArray, List.getElem?_cons_zero, List.getElem?_cons_succ]
    go_wp2_with fail
    refine ⟨rfl, _, .string (s.extract 8 12), rfl, Or.inl ⟨by rfl, fun W hW => by go_simp⟩, plan_yield ?_⟩
    simp only [Act.put, List.setIfInBounds_toArray, List.set_cons_zero, List.set_cons_succ]
    simp only [List.cons_append, List.nil_append, List.append_nil, List.filterMap_cons, List.filterMap_nil, List.getElem?_toArray, List.getElem?_cons_zero, List.getElem?_cons_succ]
    go_wp2_with fail
    refine ⟨rfl, _, .string (s.extract 16 24), rfl, Or.inl ⟨by rfl, fun W hW => by go_simp⟩, plan_yield ?_⟩
    simp only [Act.put, List.setIfInBounds_toArray, List.set_cons_zero, List.set_cons_succ]
    simp only [List.cons_append, List.nil_append, List.append_nil, List.filterMap_cons, List.filterMap_nil, List.getElem?_toArray, List.getElem?_cons_zero, List.getElem?_cons_succ]
    go_wp2_with fail
    refine ⟨rfl, _, .string (s.extract 28 32), rfl, Or.inl ⟨by rfl, fun W hW => by go_simp⟩, plan_yield ?_⟩
    simp only [Act.put, List.setIfInBounds_toArray, List.set_cons_zero, List.set_cons_succ]
    simp only [List.cons_append, List.nil_append, List.append_nil, List.filterMap_cons, List.filterMap_nil, List.getElem?_toArray, List.getElem?_cons_zero, List.getElem?_cons_succ]
    go_wp2_with fail
    refine ⟨rfl, _, .string (s.extract 108 112), rfl, Or.inl ⟨by rfl, fun W hW => by go_simp⟩, plan_fork ?_ ?_⟩
    simp only [Act.put, List.setIfInBounds_toArray, List.set_cons_zero, List.set_cons_succ]
    · simp only [List.cons_append, List.nil_append, List.append_nil, List.filterMap_cons, List.filterMap_nil, List.getElem?_toArray, List.getElem?_cons_zero, List.getElem?_cons_succ]
      go_wp2_with fail
      refine (C8.out _).mono ?_
      rintro e y2 ⟨rfl, hy2⟩
      subst y2
      go_wp2_with fail
      refine ⟨rfl, E0, plan_yield ?_⟩
      simp only [List.cons_append, List.nil_append, List.append_nil, List.filterMap_cons, List.filterMap_nil, List.getElem?_toArray, List.getElem?_cons_zero, List.getElem?_cons_succ]
      go_wp2_with fail
      refine ⟨rfl, _, .int .i64 X.b, rfl, Or.inl ⟨by rfl, fun W hW => by go_simp⟩, plan_fork ?_ ?_⟩
      simp only [Act.put, List.setIfInBounds_toArray, List.set_cons_zero, List.set_cons_succ]
      · simp only [List.cons_append, List.nil_append, List.append_nil, List.filterMap_cons, List.filterMap_nil, List.getElem?_toArray, List.getElem?_cons_zero, List.getElem?_cons_succ]
        go_wp2_with fail
        refine (C16.out _).mono ?_
        rintro e y4 ⟨rfl, hy4⟩
        subst y4
        go_wp2_with fail
        refine ⟨rfl, E0, plan_fork ?_ ?_⟩
        · simp only [List.cons_append, List.nil_append, List.append_nil, List.filterMap_cons, List.filterMap_nil, List.getElem?_toArray, List.getElem?_cons_zero, List.getElem?_cons_succ]
          go_wp2_with fail
          refine (T24.out _).mono ?_
          rintro e y6 ⟨rfl, hy6⟩
          have E6 : Hid (DS w y6) := E0.out.below hy6
          clear hy6
          go_wp2_with fail
          refine ⟨rfl, E6, plan_fork ?_ ?_⟩
          · simp only [List.cons_append, List.nil_append, List.append_nil, List.filterMap_cons, List.filterMap_nil, List.getElem?_toArray, List.getElem?_cons_zero, List.getElem?_cons_succ]
            go_wp2_with fail
            refine (C28.out _).mono ?_
            rintro e y8 ⟨rfl, hy8⟩
            subst y8
            go_wp2_with fail
            refine ⟨rfl, E6, plan_yield ?_⟩
            simp only [List.cons_append, List.nil_append, List.append_nil, List.filterMap_cons, List.filterMap_nil, List.getElem?_toArray, List.getElem?_cons_zero, List.getElem?_cons_succ]
            go_wp2_with fail
            refine ⟨rfl, _, .int .i64 X.n, rfl, Or.inl ⟨by rfl, fun W hW => by go_simp⟩, plan_fork ?_ ?_⟩
            simp only [Act.put, List.setIfInBounds_toArray, List.set_cons_zero, List.set_cons_succ]
            · simp only [List.cons_append, List.nil_append, List.append_nil, List.filterMap_cons, List.filterMap_nil, List.getElem?_toArray, List.getElem?_cons_zero, List.getElem?_cons_succ]
              go_wp2_with fail
              refine (T68.out _).mono ?_
              rintro e y10 ⟨rfl, hy10⟩
              have E10 : Hid (DS w y10) := E6.out.below hy10
              clear hy10
              go_wp2_with fail
              refine ⟨rfl, E10, plan_fork ?_ ?_⟩
              · simp only [List.cons_append, List.nil_append, List.append_nil, List.filterMap_cons, List.filterMap_nil, List.getElem?_toArray, List.getElem?_cons_zero, List.getElem?_cons_succ]
                go_wp2_with fail
                refine (C108.out _).mono ?_
                rintro e y12 ⟨rfl, hy12⟩
                subst y12
                go_wp2_with fail
                refine ⟨rfl, E10, plan_yield ?_⟩
                simp only [List.cons_append, List.nil_append, List.append_nil, List.filterMap_cons, List.filterMap_nil, List.getElem?_toArray, List.getElem?_cons_zero, List.getElem?_cons_succ]
                go_wp2_with fail
                refine ⟨rfl, _, .int .i64 X.u, rfl, Or.inl ⟨by rfl, fun W hW => by go_simp⟩, plan_fork ?_ ?_⟩
                simp only [Act.put, List.setIfInBounds_toArray, List.set_cons_zero, List.set_cons_succ]
                · simp only [List.cons_append, List.nil_append, List.append_nil, List.filterMap_cons, List.filterMap_nil, List.getElem?_toArray, List.getElem?_cons_zero, List.getElem?_cons_succ]
                  refine su_build6 (by rfl) 45 _ _ _ _ _ _ (by rfl) _ _ _ _ _ _ (by rfl) (by rfl) (by rfl) (by rfl) (by rfl) (by rfl) (suC X) (by exact hbs) ?_
                  simp only [Act.put, List.setIfInBounds_toArray, List.set_cons_zero, List.set_cons_succ]
                  go_wp2_with fail
                  refine ⟨rfl, E10, plan_force ?_⟩
                  simp only [List.cons_append, List.nil_append, List.append_nil, List.filterMap_cons, List.filterMap_nil, List.getElem?_toArray, List.getElem?_cons_zero, List.getElem?_cons_succ]
                  have E13 : Hid (DS w (y10.alloc (.cells (suC su0) 45))) := E10.out.new.1
                  have A13 : Hid (DA w (y10.alloc (.cells (suC su0) 45)) y10.heap.size) := E10.out.new.2
                  go_wp2_with fail
                  generalize (y10.alloc (.cells (suC su0) 45)) = z13 at *
                  generalize y10.heap.size = g13 at *
                  refine ⟨rfl, E13, plan_force ?_⟩
                  simp only [List.cons_append, List.nil_append, List.append_nil, List.filterMap_cons, List.filterMap_nil, List.getElem?_toArray, List.getElem?_cons_zero, List.getElem?_cons_succ]
                  have hst := Blk.store (P := Try.prog) A13.out.1 (suC X) (by simp only [suC_size]) (fun v hv => Array.all_eq_true'.1 (suC_all X) v (Array.mem_toList_iff.1 hv))
                  have hvs := suC_size X
                  go_wp2_with fail
                  refine ⟨rfl, (E13.out.fill A13.out (suC X)).1, plan_fin ?_⟩
                  simp only [List.cons_append, List.nil_append, List.append_nil, List.filterMap_cons, List.filterMap_nil, List.getElem?_toArray, List.getElem?_cons_zero, List.getElem?_cons_succ]
                  go_wp2_with fail
                  refine ⟨rfl, ?_⟩
                  go_wp2_with fail
                  go_meet
                  exact ⟨g13, rfl, (E13.out.fill A13.out (suC X)).1, (E13.out.fill A13.out (suC X)).2, A13.out.2⟩
                · simp only [List.cons_append, List.nil_append, List.append_nil, List.filterMap_cons, List.filterMap_nil, List.getElem?_toArray, List.getElem?_cons_zero, List.getElem?_cons_succ]
                  have E15 : Hid (DS w (y10.alloc (.cells (suC su0) 45))) := E10.out.new.1
                  have A15 : Hid (DA w (y10.alloc (.cells (suC su0) 45)) y10.heap.size) := E10.out.new.2
                  go_wp2_with fail
                  generalize (y10.alloc (.cells (suC su0) 45)) = z15 at *
                  generalize y10.heap.size = g15 at *
                  refine ⟨rfl, E15, plan_force ?_⟩
                  simp only [List.cons_append, List.nil_append, List.append_nil, List.filterMap_cons, List.filterMap_nil, List.getElem?_toArray, List.getElem?_cons_zero, List.getElem?_cons_succ]
                  refine su_build6 (by rfl) 45 _ _ _ _ _ _ (by rfl) _ _ _ _ _ _ (by rfl) (by rfl) (by rfl) (by rfl) (by rfl) (by rfl) (suC X) (by exact hbs) ?_
                  simp only [Act.put, List.setIfInBounds_toArray, List.set_cons_zero, List.set_cons_succ]
                  go_wp2_with fail
                  refine ⟨rfl, E15, plan_force ?_⟩
                  simp only [List.cons_append, List.nil_append, List.append_nil, List.filterMap_cons, List.filterMap_nil, List.getElem?_toArray, List.getElem?_cons_zero, List.getElem?_cons_succ]
                  have hst := Blk.store (P := Try.prog) A15.out.1 (suC X) (by simp only [suC_size]) (fun v hv => Array.all_eq_true'.1 (suC_all X) v (Array.mem_toList_iff.1 hv))
                  have hvs := suC_size X
                  go_wp2_with fail
                  refine ⟨rfl, (E15.out.fill A15.out (suC X)).1, plan_fin ?_⟩
                  simp only [List.cons_append, List.nil_append, List.append_nil, List.filterMap_cons, List.filterMap_nil, List.getElem?_toArray, List.getElem?_cons_zero, List.getElem?_cons_succ]
                  go_wp2_with fail
                  refine ⟨rfl, ?_⟩
                  go_wp2_with fail
                  go_meet
                  exact ⟨g15, rfl, (E15.out.fill A15.out (suC X)).1, (E15.out.fill A15.out (suC X)).2, A15.out.2⟩
              · simp only [List.cons_append, List.nil_append, List.append_nil, List.filterMap_cons, List.filterMap_nil, List.getElem?_toArray, List.getElem?_cons_zero, List.getElem?_cons_succ]
                have E11 : Hid (DS w (y10.alloc (.cells (suC su0) 45))) := E10.out.new.1
                have A11 : Hid (DA w (y10.alloc (.cells (suC su0) 45)) y10.heap.size) := E10.out.new.2
                go_wp2_with fail
                generalize (y10.alloc (.cells (suC su0) 45)) = z11 at *
                generalize y10.heap.size = g11 at *
                refine ⟨rfl, E11, plan_force ?_⟩
                simp only [List.cons_append, List.nil_append, List.append_nil, List.filterMap_cons, List.filterMap_nil, List.getElem?_toArray, List.getElem?_cons_zero, List.getElem?_cons_succ]
                go_wp2_with fail
                refine (C108.out _).mono ?_
                rintro e y17 ⟨rfl, hy17⟩
                subst y17
                go_wp2_with fail
                refine ⟨rfl, E11, plan_yield ?_⟩
                simp only [List.cons_append, List.nil_append, List.append_nil, List.filterMap_cons, List.filterMap_nil, List.getElem?_toArray, List.getElem?_cons_zero, List.getElem?_cons_succ]
                go_wp2_with fail
                refine ⟨rfl, _, .int .i64 X.u, rfl, Or.inl ⟨by rfl, fun W hW => by go_simp⟩, plan_force ?_⟩
                simp only [Act.put, List.setIfInBounds_toArray, List.set_cons_zero, List.set_cons_succ]
                simp only [List.cons_append, List.nil_append, List.append_nil, List.filterMap_cons, List.filterMap_nil, List.getElem?_toArray, List.getElem?_cons_zero, List.getElem?_cons_succ]
                refine su_build6 (by rfl) 45 _ _ _ _ _ _ (by rfl) _ _ _ _ _ _ (by rfl) (by rfl) (by rfl) (by rfl) (by rfl) (by rfl) (suC X) (by exact hbs) ?_
                simp only [Act.put, List.setIfInBounds_toArray, List.set_cons_zero, List.set_cons_succ]
                go_wp2_with fail
                refine ⟨rfl, E11, plan_force ?_⟩
                simp only [List.cons_append, List.nil_append, List.append_nil, List.filterMap_cons, List.filterMap_nil, List.getElem?_toArray, List.getElem?_cons_zero, List.getElem?_cons_succ]
                have hst := Blk.store (P := Try.prog) A11.out.1 (suC X) (by simp only [suC_size]) (fun v hv => Array.all_eq_true'.1 (suC_all X) v (Array.mem_toList_iff.1 hv))
                have hvs := suC_size X
                go_wp2_with fail
                refine ⟨rfl, (E11.out.fill A11.out (suC X)).1, plan_fin ?_⟩
                simp only [List.cons_append, List.nil_append, List.append_nil, List.filterMap_cons, List.filterMap_nil, List.getElem?_toArray, List.getElem?_cons_zero, List.getElem?_cons_succ]
                go_wp2_with fail
                refine ⟨rfl, ?_⟩
                go_wp2_with fail
                go_meet
                exact ⟨g11, rfl, (E11.out.fill A11.out (suC X)).1, (E11.out.fill A11.out (suC X)).2, A11.out.2⟩
            · simp only [List.cons_append, List.nil_append, List.append_nil, List.filterMap_cons, List.filterMap_nil, List.getElem?_toArray, List.getElem?_cons_zero, List.getElem?_cons_succ]
              have E9 : Hid (DS w (y6.alloc (.cells (suC su0) 45))) := E6.out.new.1
              have A9 : Hid (DA w (y6.alloc (.cells (suC su0) 45)) y6.heap.size) := E6.out.new.2
              go_wp2_with fail
              generalize (y6.alloc (.cells (suC su0) 45)) = z9 at *
              generalize y6.heap.size = g9 at *
              refine ⟨rfl, E9, plan_force ?_⟩
              simp only [List.cons_append, List.nil_append, List.append_nil, List.filterMap_cons, List.filterMap_nil, List.getElem?_toArray, List.getElem?_cons_zero, List.getElem?_cons_succ]
              go_wp2_with fail
              refine (T68.out _).mono ?_
              rintro e y19 ⟨rfl, hy19⟩
              have E19 : Hid (DS w y19) := E9.out.below hy19
              have A19 : Hid (DA w y19 g9) := A9.out.below hy19
              clear hy19
              go_wp2_with fail
              refine ⟨rfl, E19, plan_force ?_⟩
              simp only [List.cons_append, List.nil_append, List.append_nil, List.filterMap_cons, List.filterMap_nil, List.getElem?_toArray, List.getElem?_cons_zero, List.getElem?_cons_succ]
              go_wp2_with fail
              refine (C108.out _).mono ?_
              rintro e y20 ⟨rfl, hy20⟩
              subst y20
              go_wp2_with fail
              refine ⟨rfl, E19, plan_yield ?_⟩
              simp only [List.cons_append, List.nil_append, List.append_nil, List.filterMap_cons, List.filterMap_nil, List.getElem?_toArray, List.getElem?_cons_zero, List.getElem?_cons_succ]
              go_wp2_with fail
              refine ⟨rfl, _, .int .i64 X.u, rfl, Or.inl ⟨by rfl, fun W hW => by go_simp⟩, plan_force ?_⟩
              simp only [Act.put, List.setIfInBounds_toArray, List.set_cons_zero, List.set_cons_succ]
              simp only [List.cons_append, List.nil_append, List.append_nil, List.filterMap_cons, List.filterMap_nil, List.getElem?_toArray, List.getElem?_cons_zero, List.getElem?_cons_succ]
              refine su_build6 (by rfl) 45 _ _ _ _ _ _ (by rfl) _ _ _ _ _ _ (by rfl) (by rfl) (by rfl) (by rfl) (by rfl) (by rfl) (suC X) (by exact hbs) ?_
              simp only [Act.put, List.setIfInBounds_toArray, List.set_cons_zero, List.set_cons_succ]
              go_wp2_with fail
              refine ⟨rfl, E19, plan_force ?_⟩
              simp only [List.cons_append, List.nil_append, List.append_nil, List.filterMap_cons, List.filterMap_nil, List.getElem?_toArray, List.getElem?_cons_zero, List.getElem?_cons_succ]
              have hst := Blk.store (P := Try.prog) A19.out.1 (suC X) (by simp only [suC_size]) (fun v hv => Array.all_eq_true'.1 (suC_all X) v (Array.mem_toList_iff.1 hv))
              have hvs := suC_size X
              go_wp2_with fail
              refine ⟨rfl, (E19.out.fill A19.out (suC X)).1, plan_fin ?_⟩
              simp only [List.cons_append, List.nil_append, List.append_nil, List.filterMap_cons, List.filterMap_nil, List.getElem?_toArray, List.getElem?_cons_zero, List.getElem?_cons_succ]
              go_wp2_with fail
              refine ⟨rfl, ?_⟩
              go_wp2_with fail
              go_meet
              exact ⟨g9, rfl, (E19.out.fill A19.out (suC X)).1, (E19.out.fill A19.out (suC X)).2, A19.out.2⟩
          · simp only [List.cons_append, List.nil_append, List.append_nil, List.filterMap_cons, List.filterMap_nil, List.getElem?_toArray, List.getElem?_cons_zero, List.getElem?_cons_succ]
            have E7 : Hid (DS w (y6.alloc (.cells (suC su0) 45))) := E6.out.new.1
            have A7 : Hid (DA w (y6.alloc (.cells (suC su0) 45)) y6.heap.size) := E6.out.new.2
            go_wp2_with fail
            generalize (y6.alloc (.cells (suC su0) 45)) = z7 at *
            generalize y6.heap.size = g7 at *
            refine ⟨rfl, E7, plan_force ?_⟩
            simp only [List.cons_append, List.nil_append, List.append_nil, List.filterMap_cons, List.filterMap_nil, List.getElem?_toArray, List.getElem?_cons_zero, List.getElem?_cons_succ]
            go_wp2_with fail
            refine (C28.out _).mono ?_
            rintro e y22 ⟨rfl, hy22⟩
            subst y22
            go_wp2_with fail
            refine ⟨rfl, E7, plan_yield ?_⟩
            simp only [List.cons_append, List.nil_append, List.append_nil, List.filterMap_cons, List.filterMap_nil, List.getElem?_toArray, List.getElem?_cons_zero, List.getElem?_cons_succ]
            go_wp2_with fail
            refine ⟨rfl, _, .int .i64 X.n, rfl, Or.inl ⟨by rfl, fun W hW => by go_simp⟩, plan_force ?_⟩
            simp only [Act.put, List.setIfInBounds_toArray, List.set_cons_zero, List.set_cons_succ]
            simp only [List.cons_append, List.nil_append, List.append_nil, List.filterMap_cons, List.filterMap_nil, List.getElem?_toArray, List.getElem?_cons_zero, List.getElem?_cons_succ]
            go_wp2_with fail
            refine (T68.out _).mono ?_
            rintro e y23 ⟨rfl, hy23⟩
            have E23 : Hid (DS w y23) := E7.out.below hy23
            have A23 : Hid (DA w y23 g7) := A7.out.below hy23
            clear hy23
            go_wp2_with fail
            refine ⟨rfl, E23, plan_force ?_⟩
            simp only [List.cons_append, List.nil_append, List.append_nil, List.filterMap_cons, List.filterMap_nil, List.getElem?_toArray, List.getElem?_cons_zero, List.getElem?_cons_succ]
            go_wp2_with fail
            refine (C108.out _).mono ?_
            rintro e y24 ⟨rfl, hy24⟩
            subst y24
            go_wp2_with fail
            refine ⟨rfl, E23, plan_yield ?_⟩
            simp only [List.cons_append, List.nil_append, List.append_nil, List.filterMap_cons, List.filterMap_nil, List.getElem?_toArray, List.getElem?_cons_zero, List.getElem?_cons_succ]
            go_wp2_with fail
            refine ⟨rfl, _, .int .i64 X.u, rfl, Or.inl ⟨by rfl, fun W hW => by go_simp⟩, plan_force ?_⟩
            simp only [Act.put, List.setIfInBounds_toArray, List.set_cons_zero, List.set_cons_succ]
            simp only [List.cons_append, List.nil_append, List.append_nil, List.filterMap_cons, List.filterMap_nil, List.getElem?_toArray, List.getElem?_cons_zero, List.getElem?_cons_succ]
            refine su_build6 (by rfl) 45 _ _ _ _ _ _ (by rfl) _ _ _ _ _ _ (by rfl) (by rfl) (by rfl) (by rfl) (by rfl) (by rfl) (suC X) (by exact hbs) ?_
            simp only [Act.put, List.setIfInBounds_toArray, List.set_cons_zero, List.set_cons_succ]
            go_wp2_with fail
            refine ⟨rfl, E23, plan_force ?_⟩
            simp only [List.cons_append, List.nil_append, List.append_nil, List.filterMap_cons, List.filterMap_nil, List.getElem?_toArray, List.getElem?_cons_zero, List.getElem?_cons_succ]
            have hst := Blk.store (P := Try.prog) A23.out.1 (suC X) (by simp only [suC_size]) (fun v hv => Array.all_eq_true'.1 (suC_all X) v (Array.mem_toList_iff.1 hv))
            have hvs := suC_size X
            go_wp2_with fail
            refine ⟨rfl, (E23.out.fill A23.out (suC X)).1, plan_fin ?_⟩
            simp only [List.cons_append, List.nil_append, List.append_nil, List.filterMap_cons, List.filterMap_nil, List.getElem?_toArray, List.getElem?_cons_zero, List.getElem?_cons_succ]
            go_wp2_with fail
            refine ⟨rfl, ?_⟩
            go_wp2_with fail
            go_meet
            exact ⟨g7, rfl, (E23.out.fill A23.out (suC X)).1, (E23.out.fill A23.out (suC X)).2, A23.out.2⟩
        · simp only [List.cons_append, List.nil_append, List.append_nil, List.filterMap_cons, List.filterMap_nil, List.getElem?_toArray, List.getElem?_cons_zero, List.getElem?_cons_succ]
          have E5 : Hid (DS w (vd.alloc (.cells (suC su0) 45))) := E0.out.new.1
          have A5 : Hid (DA w (vd.alloc (.cells (suC su0) 45)) vd.heap.size) := E0.out.new.2
          go_wp2_with fail
          generalize (vd.alloc (.cells (suC su0) 45)) = z5 at *
          generalize vd.heap.size = g5 at *
          refine ⟨rfl, E5, plan_force ?_⟩
          simp only [List.cons_append, List.nil_append, List.append_nil, List.filterMap_cons, List.filterMap_nil, List.getElem?_toArray, List.getElem?_cons_zero, List.getElem?_cons_succ]
          go_wp2_with fail
          refine (T24.out _).mono ?_
          rintro e y26 ⟨rfl, hy26⟩
          have E26 : Hid (DS w y26) := E5.out.below hy26
          have A26 : Hid (DA w y26 g5) := A5.out.below hy26
          clear hy26
          go_wp2_with fail
          refine ⟨rfl, E26, plan_force ?_⟩
          simp only [List.cons_append, List.nil_append, List.append_nil, List.filterMap_cons, List.filterMap_nil, List.getElem?_toArray, List.getElem?_cons_zero, List.getElem?_cons_succ]
          go_wp2_with fail
          refine (C28.out _).mono ?_
          rintro e y27 ⟨rfl, hy27⟩
          subst y27
          go_wp2_with fail
          refine ⟨rfl, E26, plan_yield ?_⟩
          simp only [List.cons_append, List.nil_append, List.append_nil, List.filterMap_cons, List.filterMap_nil, List.getElem?_toArray, List.getElem?_cons_zero, List.getElem?_cons_succ]
          go_wp2_with fail
          refine ⟨rfl, _, .int .i64 X.n, rfl, Or.inl ⟨by rfl, fun W hW => by go_simp⟩, plan_force ?_⟩
          simp only [Act.put, List.setIfInBounds_toArray, List.set_cons_zero, List.set_cons_succ]
          simp only [List.cons_append, List.nil_append, List.append_nil, List.filterMap_cons, List.filterMap_nil, List.getElem?_toArray, List.getElem?_cons_zero, List.getElem?_cons_succ]
          go_wp2_with fail
          refine (T68.out _).mono ?_
          rintro e y28 ⟨rfl, hy28⟩
          have E28 : Hid (DS w y28) := E26.out.below hy28
          have A28 : Hid (DA w y28 g5) := A26.out.below hy28
          clear hy28
          go_wp2_with fail
          refine ⟨rfl, E28, plan_force ?_⟩
          simp only [List.cons_append, List.nil_append, List.append_nil, List.filterMap_cons, List.filterMap_nil, List.getElem?_toArray, List.getElem?_cons_zero, List.getElem?_cons_succ]
          go_wp2_with fail
          refine (C108.out _).mono ?_
          rintro e y29 ⟨rfl, hy29⟩
          subst y29
          go_wp2_with fail
          refine ⟨rfl, E28, plan_yield ?_⟩
          simp only [List.cons_append, List.nil_append, List.append_nil, List.filterMap_cons, List.filterMap_nil, List.getElem?_toArray, List.getElem?_cons_zero, List.getElem?_cons_succ]
          go_wp2_with fail
          refine ⟨rfl, _, .int .i64 X.u, rfl, Or.inl ⟨by rfl, fun W hW => by go_simp⟩, plan_force ?_⟩
          simp only [Act.put, List.setIfInBounds_toArray, List.set_cons_zero, List.set_cons_succ]
          simp only [List.cons_append, List.nil_append, List.append_nil, List.filterMap_cons, List.filterMap_nil, List.getElem?_toArray, List.getElem?_cons_zero, List.getElem?_cons_succ]
          refine su_build6 (by rfl) 45 _ _ _ _ _ _ (by rfl) _ _ _ _ _ _ (by rfl) (by rfl) (by rfl) (by rfl) (by rfl) (by rfl) (suC X) (by exact hbs) ?_
          simp only [Act.put, List.setIfInBounds_toArray, List.set_cons_zero, List.set_cons_succ]
          go_wp2_with fail
          refine ⟨rfl, E28, plan_force ?_⟩
          simp only [List.cons_append, List.nil_append, List.append_nil, List.filterMap_cons, List.filterMap_nil, List.getElem?_toArray, List.getElem?_cons_zero, List.getElem?_cons_succ]
          have hst := Blk.store (P := Try.prog) A28.out.1 (suC X) (by simp only [suC_size]) (fun v hv => Array.all_eq_true'.1 (suC_all X) v (Array.mem_toList_iff.1 hv))
          have hvs := suC_size X
          go_wp2_with fail
          refine ⟨rfl, (E28.out.fill A28.out (suC X)).1, plan_fin ?_⟩
          simp only [List.cons_append, List.nil_append, List.append_nil, List.filterMap_cons, List.filterMap_nil, List.getElem?_toArray, List.getElem?_cons_zero, List.getElem?_cons_succ]
          go_wp2_with fail
          refine ⟨rfl, ?_⟩
          go_wp2_with fail
          go_meet
          exact ⟨g5, rfl, (E28.out.fill A28.out (suC X)).1, (E28.out.fill A28.out (suC X)).2, A28.out.2⟩
      · simp only [List.cons_append, List.nil_append, List.append_nil, List.filterMap_cons, List.filterMap_nil, List.getElem?_toArray, List.getElem?_cons_zero, List.getElem?_cons_succ]
        have E3 : Hid (DS w (vd.alloc (.cells (suC su0) 45))) := E0.out.new.1
        have A3 : Hid (DA w (vd.alloc (.cells (suC su0) 45)) vd.heap.size) := E0.out.new.2
        go_wp2_with fail
        generalize (vd.alloc (.cells (suC su0) 45)) = z3 at *
        generalize vd.heap.size = g3 at *
        refine ⟨rfl, E3, plan_force ?_⟩
        simp only [List.cons_append, List.nil_append, List.append_nil, List.filterMap_cons, List.filterMap_nil, List.getElem?_toArray, List.getElem?_cons_zero, List.getElem?_cons_succ]
        go_wp2_with fail
        refine (C16.out _).mono ?_
        rintro e y31 ⟨rfl, hy31⟩
        subst y31
        go_wp2_with fail
        refine ⟨rfl, E3, plan_force ?_⟩
        simp only [List.cons_append, List.nil_append, List.append_nil, List.filterMap_cons, List.filterMap_nil, List.getElem?_toArray, List.getElem?_cons_zero, List.getElem?_cons_succ]
        go_wp2_with fail
        refine (T24.out _).mono ?_
        rintro e y32 ⟨rfl, hy32⟩
        have E32 : Hid (DS w y32) := E3.out.below hy32
        have A32 : Hid (DA w y32 g3) := A3.out.below hy32
        clear hy32
        go_wp2_with fail
        refine ⟨rfl, E32, plan_force ?_⟩
        simp only [List.cons_append, List.nil_append, List.append_nil, List.filterMap_cons, List.filterMap_nil, List.getElem?_toArray, List.getElem?_cons_zero, List.getElem?_cons_succ]
        go_wp2_with fail
        refine (C28.out _).mono ?_
        rintro e y33 ⟨rfl, hy33⟩
        subst y33
        go_wp2_with fail
        refine ⟨rfl, E32, plan_yield ?_⟩
        simp only [List.cons_append, List.nil_append, List.append_nil, List.filterMap_cons, List.filterMap_nil, List.getElem?_toArray, List.getElem?_cons_zero, List.getElem?_cons_succ]
        go_wp2_with fail
        refine ⟨rfl, _, .int .i64 X.n, rfl, Or.inl ⟨by rfl, fun W hW => by go_simp⟩, plan_force ?_⟩
        simp only [Act.put, List.setIfInBounds_toArray, List.set_cons_zero, List.set_cons_succ]
        simp only [List.cons_append, List.nil_append, List.append_nil, List.filterMap_cons, List.filterMap_nil, List.getElem?_toArray, List.getElem?_cons_zero, List.getElem?_cons_succ]
        go_wp2_with fail
        refine (T68.out _).mono ?_
        rintro e y34 ⟨rfl, hy34⟩
        have E34 : Hid (DS w y34) := E32.out.below hy34
        have A34 : Hid (DA w y34 g3) := A32.out.below hy34
        clear hy34
        go_wp2_with fail
        refine ⟨rfl, E34, plan_force ?_⟩
        simp only [List.cons_append, List.nil_append, List.append_nil, List.filterMap_cons, List.filterMap_nil, List.getElem?_toArray, List.getElem?_cons_zero, List.getElem?_cons_succ]
        go_wp2_with fail
        refine (C108.out _).mono ?_
        rintro e y35 ⟨rfl, hy35⟩
        subst y35
        go_wp2_with fail
        refine ⟨rfl, E34, plan_yield ?_⟩
        simp only [List.cons_append, List.nil_append, List.append_nil, List.filterMap_cons, List.filterMap_nil, List.getElem?_toArray, List.getElem?_cons_zero, List.getElem?_cons_succ]
        go_wp2_with fail
        refine ⟨rfl, _, .int .i64 X.u, rfl, Or.inl ⟨by rfl, fun W hW => by go_simp⟩, plan_force ?_⟩
        simp only [Act.put, List.setIfInBounds_toArray, List.set_cons_zero, List.set_cons_succ]
        simp only [List.cons_append, List.nil_append, List.append_nil, List.filterMap_cons, List.filterMap_nil, List.getElem?_toArray, List.getElem?_cons_zero, List.getElem?_cons_succ]
        refine su_build6 (by rfl) 45 _ _ _ _ _ _ (by rfl) _ _ _ _ _ _ (by rfl) (by rfl) (by rfl) (by rfl) (by rfl) (by rfl) (suC X) (by exact hbs) ?_
        simp only [Act.put, List.setIfInBounds_toArray, List.set_cons_zero, List.set_cons_succ]
        go_wp2_with fail
        refine ⟨rfl, E34, plan_force ?_⟩
        simp only [List.cons_append, List.nil_append, List.append_nil, List.filterMap_cons, List.filterMap_nil, List.getElem?_toArray, List.getElem?_cons_zero, List.getElem?_cons_succ]
        have hst := Blk.store (P := Try.prog) A34.out.1 (suC X) (by simp only [suC_size]) (fun v hv => Array.all_eq_true'.1 (suC_all X) v (Array.mem_toList_iff.1 hv))
        have hvs := suC_size X
        go_wp2_with fail
        refine ⟨rfl, (E34.out.fill A34.out (suC X)).1, plan_fin ?_⟩
        simp only [List.cons_append, List.nil_append, List.append_nil, List.filterMap_cons, List.filterMap_nil, List.getElem?_toArray, List.getElem?_cons_zero, List.getElem?_cons_succ]
        go_wp2_with fail
        refine ⟨rfl, ?_⟩
        go_wp2_with fail
        go_meet
        exact ⟨g3, rfl, (E34.out.fill A34.out (suC X)).1, (E34.out.fill A34.out (suC X)).2, A34.out.2⟩
    · simp only [List.cons_append, List.nil_append, List.append_nil, List.filterMap_cons, List.filterMap_nil, List.getElem?_toArray, List.getElem?_cons_zero, List.getElem?_cons_succ]
      have E1 : Hid (DS w (vd.alloc (.cells (suC su0) 45))) := E0.out.new.1
      have A1 : Hid (DA w (vd.alloc (.cells (suC su0) 45)) vd.heap.size) := E0.out.new.2
      go_wp2_with fail
      generalize (vd.alloc (.cells (suC su0) 45)) = z1 at *
      generalize vd.heap.size = g1 at *
      refine ⟨rfl, E1, plan_force ?_⟩
      simp only [List.cons_append, List.nil_append, List.append_nil, List.filterMap_cons, List.filterMap_nil, List.getElem?_toArray, List.getElem?_cons_zero, List.getElem?_cons_succ]
      go_wp2_with fail
      refine (C8.out _).mono ?_
      rintro e y37 ⟨rfl, hy37⟩
      subst y37
      go_wp2_with fail
      refine ⟨rfl, E1, plan_yield ?_⟩
      simp only [List.cons_append, List.nil_append, List.append_nil, List.filterMap_cons, List.filterMap_nil, List.getElem?_toArray, List.getElem?_cons_zero, List.getElem?_cons_succ]
      go_wp2_with fail
      refine ⟨rfl, _, .int .i64 X.b, rfl, Or.inl ⟨by rfl, fun W hW => by go_simp⟩, plan_force ?_⟩
      simp only [Act.put, List.setIfInBounds_toArray, List.set_cons_zero, List.set_cons_succ]
      simp only [List.cons_append, List.nil_append, List.append_nil, List.filterMap_cons, List.filterMap_nil, List.getElem?_toArray, List.getElem?_cons_zero, List.getElem?_cons_succ]
      go_wp2_with fail
      refine (C16.out _).mono ?_
      rintro e y38 ⟨rfl, hy38⟩
      subst y38
      go_wp2_with fail
      refine ⟨rfl, E1, plan_force ?_⟩
      simp only [List.cons_append, List.nil_append, List.append_nil, List.filterMap_cons, List.filterMap_nil, List.getElem?_toArray, List.getElem?_cons_zero, List.getElem?_cons_succ]
      go_wp2_with fail
      refine (T24.out _).mono ?_
      rintro e y39 ⟨rfl, hy39⟩
      have E39 : Hid (DS w y39) := E1.out.below hy39
      have A39 : Hid (DA w y39 g1) := A1.out.below hy39
      clear hy39
      go_wp2_with fail
      refine ⟨rfl, E39, plan_force ?_⟩
      simp only [List.cons_append, List.nil_append, List.append_nil, List.filterMap_cons, List.filterMap_nil, List.getElem?_toArray, List.getElem?_cons_zero, List.getElem?_cons_succ]
      go_wp2_with fail
      refine (C28.out _).mono ?_
      rintro e y40 ⟨rfl, hy40⟩
      subst y40
      go_wp2_with fail
      refine ⟨rfl, E39, plan_yield ?_⟩
      simp only [List.cons_append, List.nil_append, List.append_nil, List.filterMap_cons, List.filterMap_nil, List.getElem?_toArray, List.getElem?_cons_zero, List.getElem?_cons_succ]
      go_wp2_with fail
      refine ⟨rfl, _, .int .i64 X.n, rfl, Or.inl ⟨by rfl, fun W hW => by go_simp⟩, plan_force ?_⟩
      simp only [Act.put, List.setIfInBounds_toArray, List.set_cons_zero, List.set_cons_succ]
      simp only [List.cons_append, List.nil_append, List.append_nil, List.filterMap_cons, List.filterMap_nil, List.getElem?_toArray, List.getElem?_cons_zero, List.getElem?_cons_succ]
      go_wp2_with fail
      refine (T68.out _).mono ?_
      rintro e y41 ⟨rfl, hy41⟩
      have E41 : Hid (DS w y41) := E39.out.below hy41
      have A41 : Hid (DA w y41 g1) := A39.out.below hy41
      clear hy41
      go_wp2_with fail
      refine ⟨rfl, E41, plan_force ?_⟩
      simp only [List.cons_append, List.nil_append, List.append_nil, List.filterMap_cons, List.filterMap_nil, List.getElem?_toArray, List.getElem?_cons_zero, List.getElem?_cons_succ]
      go_wp2_with fail
      refine (C108.out _).mono ?_
      rintro e y42 ⟨rfl, hy42⟩
      subst y42
      go_wp2_with fail
      refine ⟨rfl, E41, plan_yield ?_⟩
      simp only [List.cons_append, List.nil_append, List.append_nil, List.filterMap_cons, List.filterMap_nil, List.getElem?_toArray, List.getElem?_cons_zero, List.getElem?_cons_succ]
      go_wp2_with fail
      refine ⟨rfl, _, .int .i64 X.u, rfl, Or.inl ⟨by rfl, fun W hW => by go_simp⟩, plan_force ?_⟩
      simp only [Act.put, List.setIfInBounds_toArray, List.set_cons_zero, List.set_cons_succ]
      simp only [List.cons_append, List.nil_append, List.append_nil, List.filterMap_cons, List.filterMap_nil, List.getElem?_toArray, List.getElem?_cons_zero, List.getElem?_cons_succ]
      refine su_build6 (by rfl) 45 _ _ _ _ _ _ (by rfl) _ _ _ _ _ _ (by rfl) (by rfl) (by rfl) (by rfl) (by rfl) (by rfl) (suC X) (by exact hbs) ?_
      simp only [Act.put, List.setIfInBounds_toArray, List.set_cons_zero, List.set_cons_succ]
      go_wp2_with fail
      refine ⟨rfl, E41, plan_force ?_⟩
      simp only [List.cons_append, List.nil_append, List.append_nil, List.filterMap_cons, List.filterMap_nil, List.getElem?_toArray, List.getElem?_cons_zero, List.getElem?_cons_succ]
      have hst := Blk.store (P := Try.prog) A41.out.1 (suC X) (by simp only [suC_size]) (fun v hv => Array.all_eq_true'.1 (suC_all X) v (Array.mem_toList_iff.1 hv))
      have hvs := suC_size X
      go_wp2_with fail
      refine ⟨rfl, (E41.out.fill A41.out (suC X)).1, plan_fin ?_⟩
      simp only [List.cons_append, List.nil_append, List.append_nil, List.filterMap_cons, List.filterMap_nil, List.getElem?_toArray, List.getElem?_cons_zero, List.getElem?_cons_succ]
      go_wp2_with fail
      refine ⟨rfl, ?_⟩
      go_wp2_with fail
      go_meet
      exact ⟨g1, rfl, (E41.out.fill A41.out (suC X)).1, (E41.out.fill A41.out (suC X)).2, A41.out.2⟩
  case rest =>
    rename World => v2
    obtain ⟨g, rfl, D2, X2, lg⟩ := hcut
    clear E C8 C16 C28 C108 T24 T68 hbs
    go_wp2_with (first | (refine wpList_load_rowg (by rfl) 45 _ (by rfl) (g) (by rfl) 45 (suC (X)) (0, 0) _ (by exact X2.out) Try.underlying45 (by rfl) (sizeRSup.trans (by rw [suC_size])) ?_; simp only [Act.put, List.setIfInBounds_toArray, List.set_cons_zero, List.set_cons_succ]) | fail)
    refine (HE.out _).mono ?_
    rintro e w3 ⟨rfl, hb3⟩
    have D3 : Hid (DS w w3) := D2.out.below hb3
    have X3 : Hid (Blk w3 g 45 (suC X)) := X2.out.below hb3 X2.out.lt
    clear hb3 D2 X2
    have b3 := D3.out.1
    go_wp2_with (first | (refine wpList_buildTo (by rfl) 45 _ (by rfl) _ rfl (suC su0) (by exact built_rsup0) ?_; simp only [Act.put, List.setIfInBounds_toArray, List.set_cons_zero, List.set_cons_succ]) | (refine wpList_store_row (by rfl) 45 _ _ (by rfl) (w.heap.size) (suC (su0)) (by rfl) (by rfl) 45 (_) (by exact b3) (sizeRSup.trans (by rw [suC_size])) (by simp only [suC_size]) (suC_all _) ?_; simp only [Act.put, List.setIfInBounds_toArray, List.set_cons_zero, List.set_cons_succ]) | (refine wpList_load_rowg (by rfl) 45 _ (by rfl) (g) (by rfl) 45 (suC (X)) (0, 0) _ (by exact X3.out) Try.underlying45 (by rfl) (sizeRSup.trans (by rw [suC_size])) ?_; simp only [Act.put, List.setIfInBounds_toArray, List.set_cons_zero, List.set_cons_succ]) | (refine wpList_store_row (by rfl) 45 _ _ (by rfl) (w.heap.size) (suC (X)) (by rfl) (by rfl) 45 (_) (by exact b3) (sizeRSup.trans (by rw [suC_size])) (by simp only [suC_size]) (suC_all _) ?_; simp only [Act.put, List.setIfInBounds_toArray, List.set_cons_zero, List.set_cons_succ]) | fail)
    try simp only [Exit.inBlock, Exit.then]
    refine bodyPost_ret (results_row2 Try.results12 _ _ (w.heap.size) 45 (suC su0) (0, 0) _ rfl (b3.set _) Try.underlying45 rfl (sizeRSup.trans (by rw [suC_size]))) rfl ?_
    exact ⟨rfl, below_setRow D3.out.2 (Nat.le_refl _) _⟩
theorem prS_R (f : Nat → Nat) (hf : ∀ i, f i < 256) : prS (strN f 256) = prR f := by
  have e4 : ∀ a, a + 4 ≤ 256 → at4 (strN f 256) a = le4f f a := fun a h => by
    unfold at4 le4f
    rw [strN_at _ _ _ (by omega) (hf _), strN_at _ _ _ (by omega) (hf _), strN_at _ _ _ (by omega) (hf _), strN_at _ _ _ (by omega) (hf _)]
  have e8 : at8 (strN f 256) 16 = le8f f 16 := by
    unfold at8 le8f
    rw [strN_at _ _ _ (by omega) (hf _), strN_at _ _ _ (by omega) (hf _), strN_at _ _ _ (by omega) (hf _), strN_at _ _ _ (by omega) (hf _), strN_at _ _ _ (by omega) (hf _), strN_at _ _ _ (by omega) (hf _), strN_at _ _ _ (by omega) (hf _), strN_at _ _ _ (by omega) (hf _)]
  unfold prS prR
  rw [e4 8 (by decide), e8, e4 24 (by decide), e4 28 (by decide), e4 68 (by decide), e4 108 (by decide)]
theorem strN_same (f g : Nat → Nat) (hf : ∀ i, f i < 256) (hg : ∀ i, g i < 256) : strN f 256 = strN g 256 ↔ bkSame f g := by
  constructor
  · intro h i hi
    have : tbyte (strN f 256) i = tbyte (strN g 256) i := by rw [h]
    rwa [strN_at _ _ _ hi (hf _), strN_at _ _ _ hi (hg _)] at this
  · intro h
    exact strN_congr fun j hj => h j hj
/-- the document's Decode of a block's bytes is the program's -/
theorem rsdecode_any (f : Nat → Nat) (hf : ∀ i, f i < 256) (w : World) : Calls Try.prog 12 #[.string (strN f 256)] w fun e w' => e = .returned (.tuple #[.agg (suC (sdV f)), .bool (sdOk f)]) ∧ Below w.heap.size w w' := by
  have e := prS_R f hf
  have hw : SuW (prS (strN f 256)) := by rw [e]; exact prR_w f hf
  unfold sdV
  by_cases hc : sck (prR f) = true
  · by_cases hq : bkSame (suB (prR f)) f
    · have ho : sdOk f = true := by unfold sdOk; rw [hc, decide_eq_true hq]; rfl
      rw [if_pos ho, ho]
      have := rsdecode_ok (strN f 256) (strN_size _ _) hw (by rw [e]; exact hc) (by rw [e]; exact (strN_same _ _ (suB_lt _ (prR_w f hf)) hf).2 hq) w
      rwa [e] at this
    · have ho : sdOk f = false := by unfold sdOk; rw [hc, decide_eq_false hq]; rfl
      rw [ho]
      exact rsdecode_un (strN f 256) (strN_size _ _) hw (by rw [e]; exact hc) (by rw [e]; exact fun h => hq ((strN_same _ _ (suB_lt _ (prR_w f hf)) hf).1 h)) w
  · have hc' : sck (prR f) = false := Bool.eq_false_iff.2 hc
    have ho : sdOk f = false := by unfold sdOk; rw [hc']; rfl
    rw [ho]
    exact rsdecode_no (strN f 256) (strN_size _ _) hw (by rw [e]; exact hc') w
end Go.Proofs.Ytalnfphlhcojcaa
