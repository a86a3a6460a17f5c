/- What a log says held against the document's list: it returns true. -/
import Derived.Test.YtjjjgnaihnknjaaRefColl
import Derived.Test.YtjjjgnaihnknjaaLogColl
import Derived.BigQuiet
import Derived.Deep.QuietTactic
import Derived.Handy
namespace Go.Proofs.Ytjjjgnaihnknjaa
open Go.RowKit
set_option linter.unusedSimpArgs false
set_option linter.unusedVariables false

theorem isIn_take (E : List (Nat × ByteArray)) (e : Nat × ByteArray) (i : Nat) (hi : i < E.length) : isIn e (E.take (i + 1)) = (isIn e (E.take i) || decide (E.getD i (0, ByteArray.empty) = e)) := by
  have h1 : E.take (i + 1) = E.take i ++ [E.getD i (0, ByteArray.empty)] := by
    rw [List.take_add_one, List.getElem?_eq_getElem hi]
    simp [List.getD, hi]
  rw [h1, Bool.eq_iff_iff, isIn_mem, Bool.or_eq_true, isIn_mem, decide_eq_true_eq, List.mem_append, List.mem_singleton]
  constructor
  · rintro (h | h)
    · exact .inl h
    · exact .inr h.symm
  · rintro (h | h)
    · exact .inl h
    · exact .inr h.symm

set_option maxRecDepth 100000 in
set_option maxHeartbeats 16000000 in
theorem logged_in (g r : Nat) (v mv : Value) (E : List (Nat × ByteArray)) (hE : E.length ≤ 4000000000000) (hOk : ∀ i, i < E.length → (E.getD i (0, ByteArray.empty)).1 < 256 ∧ (E.getD i (0, ByteArray.empty)).2.size ≤ 140737488351232)
    (kind : Int) (n tag : Nat) (s : ByteArray) (hn : n < E.length) (w : World) (h : LogAt w g r v E) (hm : RefAt w mv E) :
    Calls Try.prog 35 #[.pointer (some ⟨g, 0, none⟩), mv, .agg #[.int .i64 kind, .int .i64 (n : Int), .int .u8 (tag : Int), .string s]] w fun e w' => e = .returned (.bool true) ∧ Below w.heap.size w w' := by
  obtain ⟨b, cap, hv, hbl⟩ := hm.2
  subst hv
  have HLOG : Hid (LogAt w g r v E) := h
  have HREF : Hid (RefAt w (.slice (some ⟨b, 0, none⟩) E.length cap) E) := hm
  have HOK : Hid (∀ i, i < E.length → (E.getD i (0, ByteArray.empty)).1 < 256 ∧ (E.getD i (0, ByteArray.empty)).2.size ≤ 140737488351232) := hOk
  have HN : Hid (n < E.length) := hn
  clear h hm hOk hn
  have e0 : Blk (w.alloc (.cells #[.int .i64 kind, .int .i64 (n : Int), .int .u8 (tag : Int), .string s] 66)) w.heap.size 66 #[.int .i64 kind, .int .i64 (n : Int), .int .u8 (tag : Int), .string s] := Blk.new _ _ _
  go_enter Try.func35, Try.ntmps35
  go_wp2_with fail
  go_loopw [7, 8] (fun t c wr => ∃ i : Nat, i ≤ E.length ∧ t = .bool (isIn (tag, s) (E.take i)) ∧ c = .int .i64 (i : Int) ∧ Below w.heap.size w wr ∧ Blk wr w.heap.size 66 #[.int .i64 kind, .int .i64 (n : Int), .int .u8 (tag : Int), .string s]) (fun _ c _ => E.length + 1 - (intOf c).toNat)
  case atStart =>
    exact ⟨0, Nat.zero_le _, by simp [isIn, findIn], rfl, (Below.refl _ _).alloc (Nat.le_refl _) _, e0⟩
  case round =>
    clear e0
    obtain ⟨i, hi, rfl, rfl, hbel, hbox⟩ := hrel
    have c2 : wr.cell? ⟨w.heap.size, 2, none⟩ = some (.int .u8 (tag : Int)) := by rw [hbox.cell]; rfl
    have c3 : wr.cell? ⟨w.heap.size, 3, none⟩ = some (.string s) := by rw [hbox.cell]; rfl
    by_cases hlt : i < E.length
    · have hR := HREF.out.below hbel
      obtain ⟨d0, d1⟩ := hR.cells i hlt
      have t0 : (i : Int) < (E.length : Int) := by omega
      have j0 : (0 : Int) ≤ (i : Int) := by omega
      have HT := isIn_take E (tag, s) i hlt
      have HT' : Hid (isIn (tag, s) (E.take (i + 1)) = (isIn (tag, s) (E.take i) || decide (E.getD i (0, ByteArray.empty) = (tag, s)))) := HT
      have hq := eq_ref2 (E.getD i (0, ByteArray.empty)) (tag, s)
      clear HT
      generalize E.getD i (0, ByteArray.empty) = x at *
      generalize isIn (tag, s) (E.take i) = y at *
      cases y with
      | true =>
        go_wp2_with fail
        go_quiet (fail)
        go_wp2_with fail
        refine ⟨⟨i + 1, by omega, by rw [HT'.out]; simp, by simp, below_drewN hbel _, hbox⟩, ?_⟩
        simp [intOf]
        omega
      | false =>
        generalize decide (x = (tag, s)) = z at *
        go_wp2_with fail
        go_quiet (fail)
        go_wp2_with fail
        refine ⟨⟨i + 1, by omega, by rw [HT'.out]; simp, by simp, below_drewN hbel _, hbox⟩, ?_⟩
        simp [intOf]
        omega
    · have t0 : ¬ (i : Int) < (E.length : Int) := by omega
      obtain rfl : i = E.length := by omega
      rw [List.take_length]
      have c1 : wr.cell? ⟨w.heap.size, 1, none⟩ = some (.int .i64 (n : Int)) := by rw [hbox.cell]; rfl
      have hlog := HLOG.out.below hbel
      have hR := HREF.out.below hbel
      have HCOLL : Hid (∀ W, LogAt W g r v E → Calls Try.prog 55 #[.pointer (some ⟨g, 0, none⟩)] W fun e w' => ∃ i k b, e = .returned (.tuple #[.int .i64 ((i : Nat) : Int), .int .i64 ((k : Nat) : Int), .bool b]) ∧ CollIs (digAt E) E.length i k b ∧ Below W.heap.size W w') := fun W hW => logColl_any g r v E hE W hW
      have HRCOLL : Hid (∀ W, RefAt W (.slice (some ⟨b, 0, none⟩) E.length cap) E → Calls Try.prog 56 #[.slice (some ⟨b, 0, none⟩) E.length cap] W fun e w' => ∃ i k b, e = .returned (.tuple #[.int .i64 ((i : Nat) : Int), .int .i64 ((k : Nat) : Int), .bool b]) ∧ CollIs (digAt E) E.length i k b ∧ Below W.heap.size W w') := fun W hW => refColl_any _ E hE HOK.out W hW
      have HLEN : Hid (∀ W, LogAt W g r v E → Calls Try.prog 30 #[.pointer (some ⟨g, 0, none⟩)] W fun e w' => e = .returned (.int .i64 (E.length : Int)) ∧ W = w') := fun W hW => (logLen_any g r v E W hW).mono fun _ _ q => ⟨q.1, q.2.symm⟩
      have HHAS : Hid (∀ W, LogAt W g r v E → Calls Try.prog 31 #[.pointer (some ⟨g, 0, none⟩), .int .u8 (tag : Int), .string s] W fun e w' => e = .returned (.bool (isIn (tag, s) E)) ∧ Below W.heap.size W w') := fun W hW => logHas_any tag s g r v E W hW

      have n0 : (0 : Int) ≤ (n : Int) := by omega
      have n1 : (n : Int) < (E.length : Int) := by have := HN.out; omega
      have hat := logAt_in n g r v E hE HN.out wr hlog
      unfold entV at hat
      have HD : Hid (∀ W, RefAt W (.slice (some ⟨b, 0, none⟩) E.length cap) E → W.cell? ⟨b, n * 2, none⟩ = some (.int .u8 (((E.getD n (0, ByteArray.empty)).1 : Nat) : Int)) ∧ W.cell? ⟨b, n * 2 + 1, none⟩ = some (.string (E.getD n (0, ByteArray.empty)).2)) := fun W hW => hW.cells n HN.out
      generalize E.getD n (0, ByteArray.empty) = x at *
      have HLENB : Hid (E.length ≤ 4000000000000) := hE

      go_wp2_with fail
      refine hat.mono ?_
      rintro e w1 ⟨rfl, hb1⟩
      have hlog1 := hlog.below hb1
      have hR1 := hR.below hb1
      have hbel1 : Below w.heap.size w w1 := hbel.trans (hb1.mono hbel.size)
      have hbox1 := hbox.below hb1 hbox.lt
      clear hlog hR hbel hbox c1 c2 c3 hb1 hat
      have c1 : w1.cell? ⟨w.heap.size, 1, none⟩ = some (.int .i64 (n : Int)) := by rw [hbox1.cell]; rfl

      have hbox2 : Blk (w1.alloc (.cells #[(.int .u8 ((x.1 : Nat) : Int)), (.string x.2)] 98)) w.heap.size 66 #[.int .i64 kind, .int .i64 (n : Int), .int .u8 (tag : Int), .string s] := hbox1.alloc _
      have c1' : (w1.alloc (.cells #[(.int .u8 ((x.1 : Nat) : Int)), (.string x.2)] 98)).cell? ⟨w.heap.size, 1, none⟩ = some (.int .i64 (n : Int)) := by rw [hbox2.cell]; rfl
      have e9 : Blk (w1.alloc (.cells #[(.int .u8 ((x.1 : Nat) : Int)), (.string x.2)] 98)) w1.heap.size 98 #[(.int .u8 ((x.1 : Nat) : Int)), (.string x.2)] := Blk.new _ _ _
      have hb2 : Below w1.heap.size w1 (w1.alloc (.cells #[(.int .u8 ((x.1 : Nat) : Int)), (.string x.2)] 98)) := (Below.refl _ _).alloc (Nat.le_refl _) _
      have hlog2 := hlog1.below hb2
      have hR2 := hR1.below hb2
      have hbel2 : Below w.heap.size w (w1.alloc (.cells #[(.int .u8 ((x.1 : Nat) : Int)), (.string x.2)] 98)) := hbel1.trans (hb2.mono hbel1.size)
      clear hlog1 hR1 hbox1 hbel1 hb2 c1
      as_aux_lemma =>
        go_wp2_with fail
        generalize (w1.alloc (.cells #[(.int .u8 ((x.1 : Nat) : Int)), (.string x.2)] 98)) = w2 at *
        clear c1'
        generalize HY : isIn (tag, s) E = y at *
        have hlogd : LogAt w2.drew g r v E := hlog2.below (Below.refl _ _).drew
        refine wp_region_partsI [5, 9] [([0, 2], 3, true), ([], 1, false), ([], 4, false), ([5, 6, 12], 7, true), ([], 8, true), ([], 9, false), ([], 10, false), ([], 11, false), ([], 13, false), ([14, 15, 16, 17], 18, false), ([19, 20, 21, 22, 25], 23, true), ([], 24, true), ([], 26, false), ([], 27, false), ([28], 29, false), ([], 30, false), ([], 31, false), ([32, 35], 33, true), ([], 34, true), ([], 36, false), ([], 37, false), ([38], 39, false), ([], 40, false), ([], 41, false), ([42, 43, 44, 45, 46, 47, 48, 49], 50, false), ([], 51, false)] [52, 53] [] w2.heap.size (by kernel_rfl) (by kernel_rfl) (lows_two ⟨⟨w.heap.size, 0, none⟩, _, _, _, rfl, hbox2.lt, hbox2⟩ ⟨⟨w1.heap.size, 0, none⟩, _, _, _, rfl, e9.lt, e9⟩) (partsI_yield ?_)
        simp only [List.cons_append, List.nil_append, List.append_nil, List.filterMap_cons, List.filterMap_nil, List.getElem?_toArray, List.getElem?_cons_zero, List.getElem?_cons_succ]
        go_wp2_with fail
        refine ⟨rfl, _, .int .i64 (E.length : Int), rfl, Or.inl ⟨by rfl, fun W hW => by go_simp⟩, partsI_force ?_⟩
        simp only [Act.put, List.setIfInBounds_toArray, List.set_cons_zero, List.set_cons_succ]
        simp only [List.cons_append, List.nil_append, List.append_nil, List.filterMap_cons, List.filterMap_nil, List.getElem?_toArray, List.getElem?_cons_zero, List.getElem?_cons_succ]
        go_wp2_with fail
        refine (HLEN.out _ hlogd).mono ?_
        rintro e w3 ⟨rfl, hw3⟩
        subst hw3
        go_wp2_with fail
        refine ⟨rfl, (Below.refl _ _).drew, partsI_force ?_⟩
        simp only [List.cons_append, List.nil_append, List.append_nil, List.filterMap_cons, List.filterMap_nil, List.getElem?_toArray, List.getElem?_cons_zero, List.getElem?_cons_succ]
        go_wp2_with fail
        refine ⟨rfl, (Below.refl _ _).drew, partsI_yield ?_⟩
        simp only [List.cons_append, List.nil_append, List.append_nil, List.filterMap_cons, List.filterMap_nil, List.getElem?_toArray, List.getElem?_cons_zero, List.getElem?_cons_succ]
        go_wp2_with fail
        refine ⟨rfl, _, .pointer (some ⟨w.heap.size, 2, none⟩), rfl, Or.inl ⟨by rfl, fun W hW => by go_simp⟩, partsI_yield ?_⟩
        simp only [Act.put, List.setIfInBounds_toArray, List.set_cons_zero, List.set_cons_succ]
        simp only [List.cons_append, List.nil_append, List.append_nil, List.filterMap_cons, List.filterMap_nil, List.getElem?_toArray, List.getElem?_cons_zero, List.getElem?_cons_succ]
        refine ⟨rfl, _, .int .u8 (tag : Int), rfl, Or.inl ⟨by rfl, fun W hW => by have cw : W.cell? ⟨w.heap.size, 2, none⟩ = some (.int .u8 (tag : Int)) := (by rw [(hbox2.below hW hbox2.lt).cell]; rfl); go_simp⟩, partsI_force ?_⟩
        simp only [Act.put, List.setIfInBounds_toArray, List.set_cons_zero, List.set_cons_succ]
        simp only [List.cons_append, List.nil_append, List.append_nil, List.filterMap_cons, List.filterMap_nil, List.getElem?_toArray, List.getElem?_cons_zero, List.getElem?_cons_succ]
        go_wp2_with fail
        refine ⟨rfl, (Below.refl _ _).drew, partsI_force ?_⟩
        simp only [List.cons_append, List.nil_append, List.append_nil, List.filterMap_cons, List.filterMap_nil, List.getElem?_toArray, List.getElem?_cons_zero, List.getElem?_cons_succ]
        have k3 : w2.drew.cell? ⟨w.heap.size, 3, none⟩ = some (.string s) := by rw [hbox2.drew.cell]; rfl
        go_wp2_with fail
        refine ⟨rfl, (Below.refl _ _).drew, partsI_force ?_⟩
        simp only [List.cons_append, List.nil_append, List.append_nil, List.filterMap_cons, List.filterMap_nil, List.getElem?_toArray, List.getElem?_cons_zero, List.getElem?_cons_succ]
        go_wp2_with fail
        refine (HHAS.out _ hlogd).mono ?_
        rintro e w3 ⟨rfl, hb3⟩
        have hS3 : Below w2.heap.size w2 w3 := (Below.refl _ _).drew.trans hb3
        clear hb3 hlogd
        have hbox3 := hbox2.below hS3 hbox2.lt
        have e93 := e9.below hS3 e9.lt
        have hlog3 := hlog2.below hS3
        have hR3 := hR2.below hS3
        have k1 : w3.cell? ⟨w.heap.size, 1, none⟩ = some (.int .i64 (n : Int)) := by rw [hbox3.cell]; rfl
        obtain ⟨m0, m1⟩ := HD.out w3 hR3
        go_wp2_with fail
        refine ⟨rfl, hS3, partsI_force ?_⟩
        simp only [List.cons_append, List.nil_append, List.append_nil, List.filterMap_cons, List.filterMap_nil, List.getElem?_toArray, List.getElem?_cons_zero, List.getElem?_cons_succ]
        go_wp2_with fail
        refine ⟨rfl, hS3, partsI_force ?_⟩
        simp only [List.cons_append, List.nil_append, List.append_nil, List.filterMap_cons, List.filterMap_nil, List.getElem?_toArray, List.getElem?_cons_zero, List.getElem?_cons_succ]
        go_wp2_with fail
        refine ⟨rfl, hS3, partsI_yield ?_⟩
        simp only [List.cons_append, List.nil_append, List.append_nil, List.filterMap_cons, List.filterMap_nil, List.getElem?_toArray, List.getElem?_cons_zero, List.getElem?_cons_succ]
        go_wp2_with fail
        refine ⟨rfl, _, .pointer (some ⟨w1.heap.size, 0, none⟩), rfl, Or.inl ⟨by rfl, fun W hW => by go_simp⟩, partsI_yield ?_⟩
        simp only [Act.put, List.setIfInBounds_toArray, List.set_cons_zero, List.set_cons_succ]
        simp only [List.cons_append, List.nil_append, List.append_nil, List.filterMap_cons, List.filterMap_nil, List.getElem?_toArray, List.getElem?_cons_zero, List.getElem?_cons_succ]
        refine ⟨rfl, _, (.int .u8 ((x.1 : Nat) : Int)), rfl, Or.inl ⟨by rfl, fun W hW => by have cw : W.cell? ⟨w1.heap.size, 0, none⟩ = some (.int .u8 ((x.1 : Nat) : Int)) := (by rw [(e9.below hW e9.lt).cell]; rfl); go_simp⟩, partsI_force ?_⟩
        simp only [Act.put, List.setIfInBounds_toArray, List.set_cons_zero, List.set_cons_succ]
        simp only [List.cons_append, List.nil_append, List.append_nil, List.filterMap_cons, List.filterMap_nil, List.getElem?_toArray, List.getElem?_cons_zero, List.getElem?_cons_succ]
        go_wp2_with fail
        refine ⟨rfl, hS3, partsI_force ?_⟩
        simp only [List.cons_append, List.nil_append, List.append_nil, List.filterMap_cons, List.filterMap_nil, List.getElem?_toArray, List.getElem?_cons_zero, List.getElem?_cons_succ]
        go_wp2_with fail
        refine ⟨rfl, hS3, partsI_force ?_⟩
        simp only [List.cons_append, List.nil_append, List.append_nil, List.filterMap_cons, List.filterMap_nil, List.getElem?_toArray, List.getElem?_cons_zero, List.getElem?_cons_succ]
        go_wp2_with fail
        refine ⟨rfl, hS3, partsI_force ?_⟩
        simp only [List.cons_append, List.nil_append, List.append_nil, List.filterMap_cons, List.filterMap_nil, List.getElem?_toArray, List.getElem?_cons_zero, List.getElem?_cons_succ]
        go_wp2_with fail
        refine ⟨rfl, hS3, partsI_force ?_⟩
        simp only [List.cons_append, List.nil_append, List.append_nil, List.filterMap_cons, List.filterMap_nil, List.getElem?_toArray, List.getElem?_cons_zero, List.getElem?_cons_succ]
        go_wp2_with fail
        refine ⟨rfl, hS3, partsI_yield ?_⟩
        simp only [List.cons_append, List.nil_append, List.append_nil, List.filterMap_cons, List.filterMap_nil, List.getElem?_toArray, List.getElem?_cons_zero, List.getElem?_cons_succ]
        go_wp2_with fail
        refine ⟨rfl, _, .pointer (some ⟨w1.heap.size, 1, none⟩), rfl, Or.inl ⟨by rfl, fun W hW => by go_simp⟩, partsI_yield ?_⟩
        simp only [Act.put, List.setIfInBounds_toArray, List.set_cons_zero, List.set_cons_succ]
        simp only [List.cons_append, List.nil_append, List.append_nil, List.filterMap_cons, List.filterMap_nil, List.getElem?_toArray, List.getElem?_cons_zero, List.getElem?_cons_succ]
        refine ⟨rfl, _, (.string x.2), rfl, Or.inl ⟨by rfl, fun W hW => by have cw : W.cell? ⟨w1.heap.size, 1, none⟩ = some (.string x.2) := (by rw [(e9.below hW e9.lt).cell]; rfl); go_simp⟩, partsI_force ?_⟩
        simp only [Act.put, List.setIfInBounds_toArray, List.set_cons_zero, List.set_cons_succ]
        simp only [List.cons_append, List.nil_append, List.append_nil, List.filterMap_cons, List.filterMap_nil, List.getElem?_toArray, List.getElem?_cons_zero, List.getElem?_cons_succ]
        go_wp2_with fail
        refine ⟨rfl, hS3, partsI_force ?_⟩
        simp only [List.cons_append, List.nil_append, List.append_nil, List.filterMap_cons, List.filterMap_nil, List.getElem?_toArray, List.getElem?_cons_zero, List.getElem?_cons_succ]
        go_wp2_with fail
        refine ⟨rfl, hS3, partsI_force ?_⟩
        simp only [List.cons_append, List.nil_append, List.append_nil, List.filterMap_cons, List.filterMap_nil, List.getElem?_toArray, List.getElem?_cons_zero, List.getElem?_cons_succ]
        go_wp2_with fail
        refine ⟨rfl, hS3, partsI_force ?_⟩
        simp only [List.cons_append, List.nil_append, List.append_nil, List.filterMap_cons, List.filterMap_nil, List.getElem?_toArray, List.getElem?_cons_zero, List.getElem?_cons_succ]
        go_wp2_with fail
        refine ⟨rfl, hS3, partsI_force ?_⟩
        simp only [List.cons_append, List.nil_append, List.append_nil, List.filterMap_cons, List.filterMap_nil, List.getElem?_toArray, List.getElem?_cons_zero, List.getElem?_cons_succ]
        have hss : (x.2 == x.2) = true := by rw [beqB]; simp
        go_wp2_with fail
        refine ⟨rfl, hS3, partsI_force ?_⟩
        simp only [List.cons_append, List.nil_append, List.append_nil, List.filterMap_cons, List.filterMap_nil, List.getElem?_toArray, List.getElem?_cons_zero, List.getElem?_cons_succ]
        go_wp2_with fail
        refine ⟨rfl, hS3, partsI_force ?_⟩
        simp only [List.cons_append, List.nil_append, List.append_nil, List.filterMap_cons, List.filterMap_nil, List.getElem?_toArray, List.getElem?_cons_zero, List.getElem?_cons_succ]
        go_wp2_with fail
        refine ⟨rfl, hS3, partsI_last ?_⟩
        simp only [List.cons_append, List.nil_append, List.append_nil, List.filterMap_cons, List.filterMap_nil, List.getElem?_toArray, List.getElem?_cons_zero, List.getElem?_cons_succ]
        go_wp2_with fail
        refine ⟨rfl, ?_⟩
        go_wp2_with fail
        clear HHAS HLEN HLOG HREF HOK k1
        refine (HCOLL.out _ hlog3).mono ?_
        rintro e w4 ⟨i1, p1, b1, rfl, hc1, hb4⟩
        have hR4 := hR3.below hb4
        go_wp2_with fail
        refine (HRCOLL.out _ hR4).mono ?_
        rintro e w5 ⟨i2, p2, b2, rfl, hc2, hb5⟩
        obtain ⟨hq1, hq2, hq3⟩ := hc1.same hc2
        subst hq1 hq2 hq3
        have hbelE : Below w.heap.size w w5 := hbel2.trans ((hS3.mono hbel2.size).trans ((hb4.mono (Nat.le_trans hbel2.size hS3.size)).trans (hb5.mono (Nat.le_trans hbel2.size (Nat.le_trans hS3.size hb4.size)))))
        clear hc1 hc2 hb4 hb5 hR4 hS3 hbel2 HCOLL HRCOLL hR3 hlog3
        go_wp2_with fail
        go_ret
        exact ⟨rfl, hbelE⟩
end Go.Proofs.Ytjjjgnaihnknjaa