/- A cache: Entries where there is one, Sweep without power, GetAll by what Get answers. -/
import Derived.Test.YtdniigefmlmcdabHCaAwake
import Derived.Test.YtdniigefmlmcdabHDkEvents
import Derived.Deep.DeepCutAuto
import Derived.Deep.Cut
import Derived.Handy
import Derived.Test.YtdniigefmlmcdabHNdKit

namespace Go.Proofs.Ytdniigefmlmcdab
open Go Go.RowKit
set_option linter.unusedSimpArgs false
set_option linter.unusedVariables false

section
variable {c m B g N kk lg : Nat} {F : Nat → Nat} {q : QD} {lp o n : Option Addr} {room h r bd cn : Int}
set_option maxRecDepth 100000 in
set_option maxHeartbeats 4000000 in
theorem caRead_dead (k : Rf) (hk0 : k.1 ≠ 0) (hkN : k.1 < N) (hN : N ≤ 8192) (hdd : q.dd = true) (w : World) (hd : DiskQ w B g N F kk lg q) (hg : Blk w c 75 (caC (some ⟨g, 0, none⟩) lp room m o n h r bd cn)) : Calls Try.prog 37 #[.pointer (some ⟨c, 0, none⟩), .agg (rfC k)] w fun e w' => e = .returned (.tuple #[.agg (va 256 (iv .u8 fun _ => 0)), .int .i64 4]) ∧ Below w.heap.size w w' := by
  have hz := zero_bk
  have hML : Hid (∀ w : World, Blk w c 75 (caC (some ⟨g, 0, none⟩) lp room m o n h r bd cn) → DiskQ w B g N F kk lg q → Calls Try.prog 19 #[.pointer (some ⟨c, 0, none⟩), .int .u32 (k.1 : Int)] w fun e w' => e = .returned (.bool true) ∧ w = w') := fun w h1 h2 => mayLie_ok k.1 N hk0 hkN hN w h1 (blocks_q w h2)
  have hRd : Hid (∀ w : World, DiskQ w B g N F kk lg q → Calls Try.prog 45 #[.pointer (some ⟨g, 0, none⟩), .int .i64 (k.1 : Int)] w fun e w' => e = .returned (.tuple #[.agg (va 256 (iv .u8 fun _ => 0)), .int .i64 4]) ∧ Below w.heap.size w w') := fun w h1 => read_dead hdd (k.1 : Int) w h1
  have hb1 : Below w.heap.size w ((w.alloc (.cells (rfC k) 35)).alloc (.cells (va 256 (iv .u8 fun _ => 0)) 23)) := below_new2 _ _ _
  have r1 : Blk ((w.alloc (.cells (rfC k) 35)).alloc (.cells (va 256 (iv .u8 fun _ => 0)) 23)) w.heap.size 35 (rfC k) := (Blk.new _ _ _).alloc _
  have k1 : Blk ((w.alloc (.cells (rfC k) 35)).alloc (.cells (va 256 (iv .u8 fun _ => 0)) 23)) (w.heap.size + 1) 23 (va 256 (iv .u8 fun _ => 0)) := Blk.new1 _ _ _ _
  have g1 : Blk ((w.alloc (.cells (rfC k) 35)).alloc (.cells (va 256 (iv .u8 fun _ => 0)) 23)) c 75 (caC (some ⟨g, 0, none⟩) lp room m o n h r bd cn) := hg.below hb1 hg.lt
  have HD1 : Hid (DiskQ ((w.alloc (.cells (rfC k) 35)).alloc (.cells (va 256 (iv .u8 fun _ => 0)) 23)) B g N F kk lg q) := hd.below hb1
  have z1 : ((w.alloc (.cells (rfC k) 35)).alloc (.cells (va 256 (iv .u8 fun _ => 0)) 23)).cell? ⟨w.heap.size, 0, none⟩ = some (.int .u32 (k.1 : Int)) := (r1.cell 0).trans (va_at (rfF k.1 k.2) (by decide))
  have haU : (k.1 : Int) < 8192 := by omega
  have hwr : IntKind.i64.wrap (k.1 : Int) = (k.1 : Int) := by
    rw [IntKind.wrap_i64]
    omega
  clear hg hd hk0 hkN hN hdd
  go_enter Try.func37, Try.ntmps37
  go_wp2_with fail
  generalize ((w.alloc (.cells (rfC k) 35)).alloc (.cells (va 256 (iv .u8 fun _ => 0)) 23)) = w1 at *
  refine (hML.out _ g1 HD1.out).mono ?_
  rintro e _ ⟨rfl, rfl⟩
  go_wp2_with fail
  go_cut [7] (fun v7 wx => v7 = .int .i64 4 ∧ Blk wx (w.heap.size + 1) 23 (va 256 (iv .u8 fun _ => 0)) ∧ Below w1.heap.size w1 wx)
  case first =>
    have hS0 : Blk w1.drew c 75 (caC (some ⟨g, 0, none⟩) lp room m o n h r bd cn) ∧ Blk w1.drew w.heap.size 35 (rfC k) := ⟨g1, r1⟩
    have kd : Blk w1.drew (w.heap.size + 1) 23 (va 256 (iv .u8 fun _ => 0)) := k1
    have HDd : Hid (DiskQ w1.drew B g N F kk lg q) := HD1.out.below (Below.refl _ _).drew
    have hwd : Below w1.heap.size w1 w1.drew := (Below.refl _ _).drew
    have HWS : Hid (w1.drew.heap.size = w1.heap.size) := rfl
    refine wp_region_plan (fun W => Blk W c 75 (caC (some ⟨g, 0, none⟩) lp room m o n h r bd cn) ∧ Blk W w.heap.size 35 (rfC k)) (.yield [0] 1 (.yield [] 2 (.yield [] 3 (.yield [] 4 (.yield [] 5 (.yield [] 6 (.fork 7 11 (.force [8, 9, 10] 11 (.force [] 12 (.fin [13]))) (.force [] 7 (.yield [8] 9 (.yield [] 10 (.force [] 12 (.fin [13])))))))))))) (by kernel_rfl) (by kernel_rfl) hS0 (plan_yield ?_)
    generalize w1.drew = wd at *
    simp only [List.cons_append, List.nil_append, List.append_nil, List.filterMap_cons, List.filterMap_nil, List.getElem?_toArray, List.getElem?_cons_zero, List.getElem?_cons_succ]
    go_wp2_with fail
    refine ⟨rfl, _, .pointer (some ⟨c, 0, none⟩), rfl, Or.inl ⟨by rfl, fun W hW => by go_simp⟩, plan_yield ?_⟩
    simp only [Act.put, List.setIfInBounds_toArray, List.set_cons_zero, List.set_cons_succ]
    simp only [List.cons_append, List.nil_append, List.append_nil, List.filterMap_cons, List.filterMap_nil, List.getElem?_toArray, List.getElem?_cons_zero, List.getElem?_cons_succ]
    go_wp2_with fail
    refine ⟨rfl, _, .pointer (some ⟨c, 0, none⟩), rfl, Or.inl ⟨by rfl, fun W hW => by go_simp⟩, plan_yield ?_⟩
    simp only [Act.put, List.setIfInBounds_toArray, List.set_cons_zero, List.set_cons_succ]
    simp only [List.cons_append, List.nil_append, List.append_nil, List.filterMap_cons, List.filterMap_nil, List.getElem?_toArray, List.getElem?_cons_zero, List.getElem?_cons_succ]
    go_wp2_with fail
    refine ⟨rfl, _, .pointer (some ⟨g, 0, none⟩), rfl, Or.inl ⟨by rfl, fun W hW => by have hW1 : W.cell? ⟨c, 0, none⟩ = some (.pointer (some ⟨g, 0, none⟩)) := (hW.1.cell 0).trans rfl; go_simp⟩, plan_yield ?_⟩
    simp only [Act.put, List.setIfInBounds_toArray, List.set_cons_zero, List.set_cons_succ]
    simp only [List.cons_append, List.nil_append, List.append_nil, List.filterMap_cons, List.filterMap_nil, List.getElem?_toArray, List.getElem?_cons_zero, List.getElem?_cons_succ]
    go_wp2_with fail
    refine ⟨rfl, _, .pointer (some ⟨w.heap.size, 0, none⟩), rfl, Or.inl ⟨by rfl, fun W hW => by go_simp⟩, plan_yield ?_⟩
    simp only [Act.put, List.setIfInBounds_toArray, List.set_cons_zero, List.set_cons_succ]
    simp only [List.cons_append, List.nil_append, List.append_nil, List.filterMap_cons, List.filterMap_nil, List.getElem?_toArray, List.getElem?_cons_zero, List.getElem?_cons_succ]
    go_wp2_with fail
    refine ⟨rfl, _, .int .u32 (k.1 : Int), rfl, Or.inl ⟨by rfl, fun W hW => by have hW1 : W.cell? ⟨w.heap.size, 0, none⟩ = some (.int .u32 (k.1 : Int)) := (hW.2.cell 0).trans (va_at (rfF k.1 k.2) (by decide)); go_simp⟩, plan_yield ?_⟩
    simp only [Act.put, List.setIfInBounds_toArray, List.set_cons_zero, List.set_cons_succ]
    simp only [List.cons_append, List.nil_append, List.append_nil, List.filterMap_cons, List.filterMap_nil, List.getElem?_toArray, List.getElem?_cons_zero, List.getElem?_cons_succ]
    go_wp2_with fail
    refine ⟨rfl, _, .int .i64 (k.1 : Int), rfl, Or.inl ⟨by rfl, fun W hW => by go_simp⟩, plan_fork ?_ ?_⟩
    simp only [Act.put, List.setIfInBounds_toArray, List.set_cons_zero, List.set_cons_succ]
    · simp only [List.cons_append, List.nil_append, List.append_nil, List.filterMap_cons, List.filterMap_nil, List.getElem?_toArray, List.getElem?_cons_zero, List.getElem?_cons_succ]
      go_wp2_with fail
      refine (hRd.out _ HDd.out).mono ?_
      rintro e w2 ⟨rfl, hb2⟩
      have s2c := hS0.1.below hb2 hS0.1.lt
      have s2r := hS0.2.below hb2 hS0.2.lt
      have k2 := kd.below hb2 kd.lt
      go_wp2_with fail
      refine ⟨rfl, ⟨s2c, s2r⟩, plan_force ?_⟩
      simp only [List.cons_append, List.nil_append, List.append_nil, List.filterMap_cons, List.filterMap_nil, List.getElem?_toArray, List.getElem?_cons_zero, List.getElem?_cons_succ]
      have q0 := Blk.new w2 23 (va 256 (iv .u8 fun _ => 0))
      go_wp2_with fail
      refine ⟨rfl, ⟨s2c.alloc _, s2r.alloc _⟩, plan_force ?_⟩
      simp only [List.cons_append, List.nil_append, List.append_nil, List.filterMap_cons, List.filterMap_nil, List.getElem?_toArray, List.getElem?_cons_zero, List.getElem?_cons_succ]
      refine wpList_store_row (by rfl) 23 _ _ (by rfl) (w2.heap.size) (va 256 (iv .u8 fun _ => 0)) (by rfl) (by rfl) 23 _ q0 (sizeBk.trans (by rw [va_size])) (by rw [va_size]) (iv_one _ _ _) ?_
      simp only [Act.put, List.setIfInBounds_toArray, List.set_cons_zero, List.set_cons_succ]
      go_wp2_with fail
      refine ⟨rfl, ⟨(s2c.alloc _).other _ (Nat.ne_of_lt s2c.lt), (s2r.alloc _).other _ (Nat.ne_of_lt s2r.lt)⟩, plan_fin ?_⟩
      simp only [List.cons_append, List.nil_append, List.append_nil, List.filterMap_cons, List.filterMap_nil, List.getElem?_toArray, List.getElem?_cons_zero, List.getElem?_cons_succ]
      go_wp2_with fail
      refine ⟨rfl, ?_⟩
      go_wp2_with fail
      go_meet
      have hws := HWS.out
      have hbx := hwd.trans (hb2.mono (B' := w1.heap.size) (by omega))
      exact ⟨rfl, (k2.alloc _).other _ (Nat.ne_of_lt k2.lt), below_setRow (hbx.alloc hbx.size _) hbx.size _⟩
    · simp only [List.cons_append, List.nil_append, List.append_nil, List.filterMap_cons, List.filterMap_nil, List.getElem?_toArray, List.getElem?_cons_zero, List.getElem?_cons_succ]
      have q0 := Blk.new wd 23 (va 256 (iv .u8 fun _ => 0))
      go_wp2_with fail
      refine ⟨rfl, ⟨hS0.1.alloc _, hS0.2.alloc _⟩, plan_force ?_⟩
      simp only [List.cons_append, List.nil_append, List.append_nil, List.filterMap_cons, List.filterMap_nil, List.getElem?_toArray, List.getElem?_cons_zero, List.getElem?_cons_succ]
      go_wp2_with fail
      refine (hRd.out _ (HDd.out.below (below_new1 _ _))).mono ?_
      rintro e w2 ⟨rfl, hb2⟩
      have s2c := (hS0.1.alloc _).below hb2 (hS0.1.alloc _).lt
      have s2r := (hS0.2.alloc _).below hb2 (hS0.2.alloc _).lt
      have k2 := (kd.alloc _).below hb2 (kd.alloc _).lt
      have q2 := q0.below hb2 q0.lt
      have hb3 : Below wd.heap.size wd w2 := (below_new1 wd _).trans (hb2.mono (by simp))
      go_wp2_with fail
      refine ⟨rfl, ⟨s2c, s2r⟩, plan_yield ?_⟩
      simp only [List.cons_append, List.nil_append, List.append_nil, List.filterMap_cons, List.filterMap_nil, List.getElem?_toArray, List.getElem?_cons_zero, List.getElem?_cons_succ]
      go_wp2_with fail
      refine ⟨rfl, _, .agg (va 256 (iv .u8 fun _ => 0)), rfl, Or.inl ⟨by rfl, fun W hW => by go_simp⟩, plan_yield ?_⟩
      simp only [Act.put, List.setIfInBounds_toArray, List.set_cons_zero, List.set_cons_succ]
      simp only [List.cons_append, List.nil_append, List.append_nil, List.filterMap_cons, List.filterMap_nil, List.getElem?_toArray, List.getElem?_cons_zero, List.getElem?_cons_succ]
      go_wp2_with fail
      refine ⟨rfl, _, .int .i64 4, rfl, Or.inl ⟨by rfl, fun W hW => by go_simp⟩, plan_force ?_⟩
      simp only [Act.put, List.setIfInBounds_toArray, List.set_cons_zero, List.set_cons_succ]
      simp only [List.cons_append, List.nil_append, List.append_nil, List.filterMap_cons, List.filterMap_nil, List.getElem?_toArray, List.getElem?_cons_zero, List.getElem?_cons_succ]
      refine wpList_store_row (by rfl) 23 _ _ (by rfl) (wd.heap.size) (va 256 (iv .u8 fun _ => 0)) (by rfl) (by rfl) 23 _ q2 (sizeBk.trans (by rw [va_size])) (by rw [va_size]) (iv_one _ _ _) ?_
      simp only [Act.put, List.setIfInBounds_toArray, List.set_cons_zero, List.set_cons_succ]
      go_wp2_with fail
      refine ⟨rfl, ⟨s2c.other _ (Nat.ne_of_lt hS0.1.lt), s2r.other _ (Nat.ne_of_lt hS0.2.lt)⟩, plan_fin ?_⟩
      simp only [List.cons_append, List.nil_append, List.append_nil, List.filterMap_cons, List.filterMap_nil, List.getElem?_toArray, List.getElem?_cons_zero, List.getElem?_cons_succ]
      go_wp2_with fail
      refine ⟨rfl, ?_⟩
      go_wp2_with fail
      go_meet
      have hws := HWS.out
      have hbx := hwd.trans (hb3.mono (B' := w1.heap.size) (by omega))
      exact ⟨rfl, k2.other _ (Nat.ne_of_lt kd.lt), below_setRow hbx (by omega) _⟩
  case rest =>
    obtain ⟨rfl, k3, hb3⟩ := hcut
    rename World => w3
    have hbw : Below w.heap.size w w3 := hb1.trans (hb3.mono hb1.size)
    clear r1 k1 g1 HD1 z1 hb1 hb3 hML hRd
    go_wp2_with (first
      | (refine wpList_store_row (by rfl) 23 _ _ (by rfl) (w.heap.size + 1) (va 256 (iv .u8 (fun _ => 0))) (by rfl) (by rfl) 23 _ k3 (sizeBk.trans (by rw [va_size])) (by simp only [va_size]) (iv_one _ _ _) ?_; simp only [Act.put, List.setIfInBounds_toArray, List.set_cons_zero, List.set_cons_succ])
      | fail)
    try simp only [Exit.inBlock, Exit.then]
    refine bodyPost_ret (results_row2 Try.results37 _ _ (w.heap.size + 1) 23 (va 256 (iv .u8 (fun _ => 0))) (0, 0) _ rfl ((k3.set _)) Try.underlying23 rfl (sizeBk.trans (by rw [va_size]))) rfl ?_
    exact ⟨rfl, below_setRow hbw (by omega) _⟩
set_option maxRecDepth 100000 in
set_option maxHeartbeats 4000000 in
theorem caCheck_dead (k : Rf) (hk0 : k.1 ≠ 0) (hkN : k.1 < N) (hN : N ≤ 8192) (hdd : q.dd = true) (w : World) (hd : DiskQ w B g N F kk lg q) (hg : Blk w c 75 (caC (some ⟨g, 0, none⟩) lp room m o n h r bd cn)) : Calls Try.prog 27 #[.pointer (some ⟨c, 0, none⟩), .agg (rfC k)] w fun e w' => e = .returned (.int .i64 4) ∧ Below w.heap.size w w' := by
  have hz := zero_bk
  have hRd : Hid (∀ w : World, Blk w c 75 (caC (some ⟨g, 0, none⟩) lp room m o n h r bd cn) → DiskQ w B g N F kk lg q → Calls Try.prog 37 #[.pointer (some ⟨c, 0, none⟩), .agg (rfC k)] w fun e w' => e = .returned (.tuple #[.agg (va 256 (iv .u8 fun _ => 0)), .int .i64 4]) ∧ Below w.heap.size w w') := fun w h1 h2 => caRead_dead k hk0 hkN hN hdd w h2 h1
  have hN0 : Hid (∀ w, Calls Try.prog 35 #[.agg (rfC k)] w fun e w' => e = .returned (.bool false) ∧ Below w.heap.size w w') := fun w => by
    have := none_any k w
    rw [decide_eq_false (fun e => hk0 (by rw [e]; rfl))] at this
    exact this
  have hb1 : Below w.heap.size w (w.alloc (.cells (rfC k) 35)) := below_new1 _ _
  have r1 : Blk (w.alloc (.cells (rfC k) 35)) w.heap.size 35 (rfC k) := Blk.new _ _ _
  have HG1 : Hid (Blk (w.alloc (.cells (rfC k) 35)) c 75 (caC (some ⟨g, 0, none⟩) lp room m o n h r bd cn)) := hg.below hb1 hg.lt
  have HD1 : Hid (DiskQ (w.alloc (.cells (rfC k) 35)) B g N F kk lg q) := hd.below hb1
  clear hg hd hk0 hkN hN hdd
  go_enter Try.func27, Try.ntmps27
  go_wp2_with (first
    | (refine wpList_load_rowg (by rfl) 35 _ (by rfl) (w.heap.size) (by rfl) 35 (rfC k) (0, 0) _ (by exact r1) Try.underlying35 (by rfl) (slSizeRef.trans (by rw [rfC_size])) ?_; simp only [Act.put, List.setIfInBounds_toArray, List.set_cons_zero, List.set_cons_succ])
    | fail)
  generalize (w.alloc (.cells (rfC k) 35)) = w1 at *
  refine (hN0.out _).mono ?_
  rintro e w2 ⟨rfl, hb⟩
  have r2 := r1.below hb r1.lt
  have HG2 : Hid (Blk w2 c 75 (caC (some ⟨g, 0, none⟩) lp room m o n h r bd cn)) := HG1.out.below hb HG1.out.lt
  have HD2 : Hid (DiskQ w2 B g N F kk lg q) := HD1.out.below hb
  have hb2 : Below w.heap.size w w2 := hb1.trans (hb.mono hb1.size)
  clear hb r1 HG1 HD1 hb1
  go_wp2_with (first
    | (refine wpList_load_rowg (by rfl) 35 _ (by rfl) (w.heap.size) (by rfl) 35 (rfC k) (0, 0) _ (by exact r2) Try.underlying35 (by rfl) (slSizeRef.trans (by rw [rfC_size])) ?_; simp only [Act.put, List.setIfInBounds_toArray, List.set_cons_zero, List.set_cons_succ])
    | fail)
  refine (hRd.out _ HG2.out HD2.out).mono ?_
  rintro e w3 ⟨rfl, hb⟩
  have hb3 : Below w.heap.size w w3 := hb2.trans (hb.mono hb2.size)
  clear hb r2 HG2 HD2 hb2
  have q0 := Blk.new w3 23 (va 256 (iv .u8 fun _ => 0))
  go_wp2_with (first
    | (refine wpList_store_row (by rfl) 23 _ _ (by rfl) (w3.heap.size) (va 256 (iv .u8 (fun _ => 0))) (by rfl) (by rfl) 23 _ q0 (sizeBk.trans (by rw [va_size])) (by simp only [va_size]) (iv_one _ _ _) ?_; simp only [Act.put, List.setIfInBounds_toArray, List.set_cons_zero, List.set_cons_succ])
    | fail)
  go_ret
  exact ⟨rfl, below_setRow (hb3.alloc hb3.size _) hb3.size _⟩
set_option maxRecDepth 100000 in
set_option maxHeartbeats 4000000 in
theorem use_none (k : Rf) (l : List (Rf × Nat)) (hk : findIn k l = none) (w : World) (hg : Blk w c 75 (caC (some ⟨g, 0, none⟩) lp room m o n h r bd cn)) (hm : MapIs rfV ptV w m l) : Calls Try.prog 36 #[.pointer (some ⟨c, 3, none⟩), .agg (rfC k)] w fun e w' => e = .returned (.tuple #[.agg (va 256 (iv .u8 fun _ => 0)), .bool false]) ∧ Below w.heap.size w w' := by
  have hz := zero_bk
  have hb1 : Below w.heap.size w ((w.alloc (.cells (rfC k) 35)).alloc (.cells (va 256 (iv .u8 fun _ => 0)) 23)) := below_new2 _ _ _
  have r1 : Blk ((w.alloc (.cells (rfC k) 35)).alloc (.cells (va 256 (iv .u8 fun _ => 0)) 23)) w.heap.size 35 (rfC k) := (Blk.new _ _ _).alloc _
  have k1 : Blk ((w.alloc (.cells (rfC k) 35)).alloc (.cells (va 256 (iv .u8 fun _ => 0)) 23)) (w.heap.size + 1) 23 (va 256 (iv .u8 fun _ => 0)) := Blk.new1 _ _ _ _
  have c3 : ((w.alloc (.cells (rfC k) 35)).alloc (.cells (va 256 (iv .u8 fun _ => 0)) 23)).cell? ⟨c, 3, none⟩ = some (.map (some m)) := by
    rw [(hg.below hb1 hg.lt).cell]
    rfl
  have hlk : (Instr.lookup 67 (.map (some m)) (.agg (rfC k)) true).run Try.prog ((w.alloc (.cells (rfC k) 35)).alloc (.cells (va 256 (iv .u8 fun _ => 0)) 23)).drew = .ok (.tuple #[.pointer none, .bool false]) ((w.alloc (.cells (rfC k) 35)).alloc (.cells (va 256 (iv .u8 fun _ => 0)) 23)).drew := by
    have := run_lookup_is Try.underlying67 ref_key zero_en (hm.below hb1.drew hm.lt) k true
    rw [hk] at this
    exact this
  clear hg hm hk
  go_enter Try.func36, Try.ntmps36
  go_wp2_with fail
  have k1d : Blk ((w.alloc (.cells (rfC k) 35)).alloc (.cells (va 256 (iv .u8 fun _ => 0)) 23)).drew (w.heap.size + 1) 23 (va 256 (iv .u8 fun _ => 0)) := k1
  have hbd : Below w.heap.size w ((w.alloc (.cells (rfC k) 35)).alloc (.cells (va 256 (iv .u8 fun _ => 0)) 23)).drew := hb1.drew
  clear k1 hb1
  generalize ((w.alloc (.cells (rfC k) 35)).alloc (.cells (va 256 (iv .u8 fun _ => 0)) 23)) = w1 at *
  refine wp_region_partsS (fun W => W.cell? ⟨c, 3, none⟩ = some (.map (some m))) [([0], 1, true), ([], 2, true), ([], 3, true), ([], 4, false), ([], 5, false)] [6, 7, 8, 9, 10] [] (by kernel_rfl) (by kernel_rfl) c3 (partsI_yield ?_)
  simp only [List.cons_append, List.nil_append, List.append_nil, List.filterMap_cons, List.filterMap_nil, List.getElem?_toArray, List.getElem?_cons_zero, List.getElem?_cons_succ]
  go_wp2_with fail
  refine ⟨rfl, _, .pointer (some ⟨c, 3, none⟩), rfl, Or.inl ⟨by rfl, fun W hW => by go_simp⟩, partsI_yield ?_⟩
  simp only [Act.put, List.setIfInBounds_toArray, List.set_cons_zero, List.set_cons_succ]
  simp only [List.cons_append, List.nil_append, List.append_nil, List.filterMap_cons, List.filterMap_nil, List.getElem?_toArray, List.getElem?_cons_zero, List.getElem?_cons_succ]
  go_wp2_with fail
  refine ⟨rfl, _, .pointer (some ⟨c, 3, none⟩), rfl, Or.inl ⟨by rfl, fun W hW => by go_simp⟩, partsI_yield ?_⟩
  simp only [Act.put, List.setIfInBounds_toArray, List.set_cons_zero, List.set_cons_succ]
  simp only [List.cons_append, List.nil_append, List.append_nil, List.filterMap_cons, List.filterMap_nil, List.getElem?_toArray, List.getElem?_cons_zero, List.getElem?_cons_succ]
  go_wp2_with fail
  refine ⟨rfl, _, .map (some m), rfl, Or.inl ⟨by rfl, fun W hW => by go_simp⟩, partsI_force ?_⟩
  simp only [Act.put, List.setIfInBounds_toArray, List.set_cons_zero, List.set_cons_succ]
  simp only [List.cons_append, List.nil_append, List.append_nil, List.filterMap_cons, List.filterMap_nil, List.getElem?_toArray, List.getElem?_cons_zero, List.getElem?_cons_succ]
  refine wpList_load_rowg (by rfl) 35 _ (by rfl) w.heap.size (by rfl) 35 (rfC k) (0, 0) _ r1.drew Try.underlying35 (by rfl) (slSizeRef.trans (by rw [rfC_size])) ?_
  simp only [Act.put, List.setIfInBounds_toArray, List.set_cons_zero, List.set_cons_succ]
  go_wp2_with fail
  refine ⟨rfl, c3, partsI_force ?_⟩
  simp only [List.cons_append, List.nil_append, List.append_nil, List.filterMap_cons, List.filterMap_nil, List.getElem?_toArray, List.getElem?_cons_zero, List.getElem?_cons_succ]
  go_wp2_with fail
  refine ⟨rfl, c3, partsI_last ?_⟩
  simp only [List.cons_append, List.nil_append, List.append_nil, List.filterMap_cons, List.filterMap_nil, List.getElem?_toArray, List.getElem?_cons_zero, List.getElem?_cons_succ]
  go_wp2_with fail
  refine ⟨rfl, ?_⟩
  clear c3 hlk r1
  generalize w1.drew = w2 at *
  go_wp2_with (first
    | (refine wpList_store_row (by rfl) 23 _ _ (by rfl) (w.heap.size + 1) (va 256 (iv .u8 (fun _ => 0))) (by rfl) (by rfl) 23 _ k1d (sizeBk.trans (by rw [va_size])) (by simp only [va_size]) (iv_one _ _ _) ?_; simp only [Act.put, List.setIfInBounds_toArray, List.set_cons_zero, List.set_cons_succ])
    | fail)
  try simp only [Exit.inBlock, Exit.then]
  refine bodyPost_ret (results_row2 Try.results36 _ _ (w.heap.size + 1) 23 (va 256 (iv .u8 (fun _ => 0))) (0, 0) _ rfl ((k1d.set _)) Try.underlying23 rfl (sizeBk.trans (by rw [va_size]))) rfl ?_
  exact ⟨rfl, below_setRow hbd (by omega) _⟩
set_option maxRecDepth 100000 in
set_option maxHeartbeats 4000000 in
theorem caGet_dead (k : Rf) (hk0 : k.1 ≠ 0) (hkN : k.1 < N) (hN : N ≤ 8192) (l : List (Rf × Nat)) (hkl : findIn k l = none) (hdd : q.dd = true) (w : World) (hd : DiskQ w B g N F kk lg q) (hg : Blk w c 75 (caC (some ⟨g, 0, none⟩) lp room m o n h r bd cn)) (hm : MapIs rfV ptV w m l) : Calls Try.prog 23 #[.pointer (some ⟨c, 0, none⟩), .agg (rfC k)] w fun e w' => e = .returned (.tuple #[.agg (va 256 (iv .u8 fun _ => 0)), .int .i64 4]) ∧ Below w.heap.size w w' := by
  have hz := zero_bk
  have hRd : Hid (∀ w : World, Blk w c 75 (caC (some ⟨g, 0, none⟩) lp room m o n h r bd cn) → DiskQ w B g N F kk lg q → Calls Try.prog 37 #[.pointer (some ⟨c, 0, none⟩), .agg (rfC k)] w fun e w' => e = .returned (.tuple #[.agg (va 256 (iv .u8 fun _ => 0)), .int .i64 4]) ∧ Below w.heap.size w w') := fun w h1 h2 => caRead_dead k hk0 hkN hN hdd w h2 h1
  have hN0 : Hid (∀ w, Calls Try.prog 35 #[.agg (rfC k)] w fun e w' => e = .returned (.bool false) ∧ Below w.heap.size w w') := fun w => by
    have := none_any k w
    rw [decide_eq_false (fun e => hk0 (by rw [e]; rfl))] at this
    exact this
  have hU : Hid (∀ w : World, Blk w c 75 (caC (some ⟨g, 0, none⟩) lp room m o n h r bd cn) → MapIs rfV ptV w m l → Calls Try.prog 36 #[.pointer (some ⟨c, 3, none⟩), .agg (rfC k)] w fun e w' => e = .returned (.tuple #[.agg (va 256 (iv .u8 fun _ => 0)), .bool false]) ∧ Below w.heap.size w w') := fun w h1 h2 => use_none k l hkl w h1 h2
  have hb1 : Below w.heap.size w ((w.alloc (.cells (rfC k) 35)).alloc (.cells (va 256 (iv .u8 fun _ => 0)) 23)) := below_new2 _ _ _
  have r1 : Blk ((w.alloc (.cells (rfC k) 35)).alloc (.cells (va 256 (iv .u8 fun _ => 0)) 23)) w.heap.size 35 (rfC k) := (Blk.new _ _ _).alloc _
  have k1 : Blk ((w.alloc (.cells (rfC k) 35)).alloc (.cells (va 256 (iv .u8 fun _ => 0)) 23)) (w.heap.size + 1) 23 (va 256 (iv .u8 fun _ => 0)) := Blk.new1 _ _ _ _
  have HG1 : Hid (Blk ((w.alloc (.cells (rfC k) 35)).alloc (.cells (va 256 (iv .u8 fun _ => 0)) 23)) c 75 (caC (some ⟨g, 0, none⟩) lp room m o n h r bd cn)) := hg.below hb1 hg.lt
  have HM1 : Hid (MapIs rfV ptV ((w.alloc (.cells (rfC k) 35)).alloc (.cells (va 256 (iv .u8 fun _ => 0)) 23)) m l) := hm.below hb1 hm.lt
  have HD1 : Hid (DiskQ ((w.alloc (.cells (rfC k) 35)).alloc (.cells (va 256 (iv .u8 fun _ => 0)) 23)) B g N F kk lg q) := hd.below hb1
  clear hg hm hd hk0 hkN hN hdd hkl
  go_enter Try.func23, Try.ntmps23
  go_wp2_with (first
    | (refine wpList_load_rowg (by rfl) 35 _ (by rfl) (w.heap.size) (by rfl) 35 (rfC k) (0, 0) _ (by exact r1) Try.underlying35 (by rfl) (slSizeRef.trans (by rw [rfC_size])) ?_; simp only [Act.put, List.setIfInBounds_toArray, List.set_cons_zero, List.set_cons_succ])
    | fail)
  generalize ((w.alloc (.cells (rfC k) 35)).alloc (.cells (va 256 (iv .u8 fun _ => 0)) 23)) = w1 at *
  refine (hN0.out _).mono ?_
  rintro e w2 ⟨rfl, hb⟩
  have r2 : Blk w2.drew w.heap.size 35 (rfC k) := r1.below hb.drew r1.lt
  have k2 : Blk w2.drew (w.heap.size + 1) 23 (va 256 (iv .u8 fun _ => 0)) := k1.below hb.drew k1.lt
  have HG2 : Hid (Blk w2.drew c 75 (caC (some ⟨g, 0, none⟩) lp room m o n h r bd cn)) := HG1.out.below hb.drew HG1.out.lt
  have HM2 : Hid (MapIs rfV ptV w2.drew m l) := HM1.out.below hb.drew HM1.out.lt
  have HD2 : Hid (DiskQ w2.drew B g N F kk lg q) := HD1.out.below hb.drew
  have hb2 : Below w.heap.size w w2.drew := hb1.trans (hb.drew.mono hb1.size)
  clear hb r1 k1 HG1 HM1 HD1 hb1 hN0
  go_wp2_with fail
  go_cut [7] (fun v7 wx => v7 = .bool false ∧ Blk wx w.heap.size 35 (rfC k) ∧ Blk wx (w.heap.size + 1) 23 (va 256 (iv .u8 fun _ => 0)) ∧ Below w2.drew.heap.size w2.drew wx)
  case first =>
    refine wp_region_plan (fun W => Blk W w.heap.size 35 (rfC k)) (.yield [0] 1 (.yield [] 2 (.yield [] 3 (.fork 4 8 (.force [5, 6, 7] 8 (.force [] 9 (.fin [10]))) (.force [] 4 (.yield [5] 6 (.yield [] 7 (.force [] 9 (.fin [10]))))))))) (by kernel_rfl) (by kernel_rfl) r2 (plan_yield ?_)
    generalize w2.drew = wd at *
    simp only [List.cons_append, List.nil_append, List.append_nil, List.filterMap_cons, List.filterMap_nil, List.getElem?_toArray, List.getElem?_cons_zero, List.getElem?_cons_succ]
    go_wp2_with fail
    refine ⟨rfl, _, .pointer (some ⟨c, 0, none⟩), rfl, Or.inl ⟨by rfl, fun W hW => by go_simp⟩, plan_yield ?_⟩
    simp only [Act.put, List.setIfInBounds_toArray, List.set_cons_zero, List.set_cons_succ]
    simp only [List.cons_append, List.nil_append, List.append_nil, List.filterMap_cons, List.filterMap_nil, List.getElem?_toArray, List.getElem?_cons_zero, List.getElem?_cons_succ]
    go_wp2_with fail
    refine ⟨rfl, _, .pointer (some ⟨c, 3, none⟩), rfl, Or.inl ⟨by rfl, fun W hW => by go_simp⟩, plan_yield ?_⟩
    simp only [Act.put, List.setIfInBounds_toArray, List.set_cons_zero, List.set_cons_succ]
    simp only [List.cons_append, List.nil_append, List.append_nil, List.filterMap_cons, List.filterMap_nil, List.getElem?_toArray, List.getElem?_cons_zero, List.getElem?_cons_succ]
    go_wp2_with fail
    refine ⟨rfl, _, .agg (rfC k), rfl, kyields_load (by rfl) 35 _ (by rfl) w.heap.size 33 (rfF k.1 k.2) (by rfl) _ 35 (fun W hW => hW) Try.underlying35 rfl slSizeRef, plan_fork ?_ ?_⟩
    simp only [Act.put, List.setIfInBounds_toArray, List.set_cons_zero, List.set_cons_succ]
    · simp only [List.cons_append, List.nil_append, List.append_nil, List.filterMap_cons, List.filterMap_nil, List.getElem?_toArray, List.getElem?_cons_zero, List.getElem?_cons_succ]
      go_wp2_with fail
      refine (hU.out _ HG2.out HM2.out).mono ?_
      rintro e w3 ⟨rfl, hb3⟩
      have r3 := r2.below hb3 r2.lt
      have k3 := k2.below hb3 k2.lt
      go_wp2_with fail
      refine ⟨rfl, r3, plan_force ?_⟩
      simp only [List.cons_append, List.nil_append, List.append_nil, List.filterMap_cons, List.filterMap_nil, List.getElem?_toArray, List.getElem?_cons_zero, List.getElem?_cons_succ]
      have q0 := Blk.new w3 23 (va 256 (iv .u8 fun _ => 0))
      go_wp2_with fail
      refine ⟨rfl, (r3.alloc _), plan_force ?_⟩
      simp only [List.cons_append, List.nil_append, List.append_nil, List.filterMap_cons, List.filterMap_nil, List.getElem?_toArray, List.getElem?_cons_zero, List.getElem?_cons_succ]
      refine wpList_store_row (by rfl) 23 _ _ (by rfl) (w3.heap.size) (va 256 (iv .u8 fun _ => 0)) (by rfl) (by rfl) 23 _ q0 (sizeBk.trans (by rw [va_size])) (by rw [va_size]) (iv_one _ _ _) ?_
      simp only [Act.put, List.setIfInBounds_toArray, List.set_cons_zero, List.set_cons_succ]
      go_wp2_with fail
      refine ⟨rfl, ((r3.alloc _).other _ (Nat.ne_of_lt r3.lt)), plan_fin ?_⟩
      simp only [List.cons_append, List.nil_append, List.append_nil, List.filterMap_cons, List.filterMap_nil, List.getElem?_toArray, List.getElem?_cons_zero, List.getElem?_cons_succ]
      go_wp2_with fail
      refine ⟨rfl, ?_⟩
      go_wp2_with fail
      go_meet
      exact ⟨rfl, (r3.alloc _).other _ (Nat.ne_of_lt r3.lt), (k3.alloc _).other _ (Nat.ne_of_lt k3.lt), below_setRow (hb3.alloc hb3.size _) hb3.size _⟩
    · simp only [List.cons_append, List.nil_append, List.append_nil, List.filterMap_cons, List.filterMap_nil, List.getElem?_toArray, List.getElem?_cons_zero, List.getElem?_cons_succ]
      have q0 := Blk.new wd 23 (va 256 (iv .u8 fun _ => 0))
      go_wp2_with fail
      refine ⟨rfl, (r2.alloc _), plan_force ?_⟩
      simp only [List.cons_append, List.nil_append, List.append_nil, List.filterMap_cons, List.filterMap_nil, List.getElem?_toArray, List.getElem?_cons_zero, List.getElem?_cons_succ]
      go_wp2_with fail
      refine (hU.out _ (HG2.out.alloc _) (HM2.out.below (below_new1 _ _) HM2.out.lt)).mono ?_
      rintro e w3 ⟨rfl, hb3⟩
      have r3 := (r2.alloc _).below hb3 (r2.alloc _).lt
      have k3 := (k2.alloc _).below hb3 (k2.alloc _).lt
      have q3 := q0.below hb3 q0.lt
      have hb4 : Below wd.heap.size wd w3 := (below_new1 wd _).trans (hb3.mono (by simp))
      go_wp2_with fail
      refine ⟨rfl, r3, plan_yield ?_⟩
      simp only [List.cons_append, List.nil_append, List.append_nil, List.filterMap_cons, List.filterMap_nil, List.getElem?_toArray, List.getElem?_cons_zero, List.getElem?_cons_succ]
      go_wp2_with fail
      refine ⟨rfl, _, .agg (va 256 (iv .u8 fun _ => 0)), rfl, Or.inl ⟨by rfl, fun W hW => by go_simp⟩, plan_yield ?_⟩
      simp only [Act.put, List.setIfInBounds_toArray, List.set_cons_zero, List.set_cons_succ]
      simp only [List.cons_append, List.nil_append, List.append_nil, List.filterMap_cons, List.filterMap_nil, List.getElem?_toArray, List.getElem?_cons_zero, List.getElem?_cons_succ]
      go_wp2_with fail
      refine ⟨rfl, _, .bool false, rfl, Or.inl ⟨by rfl, fun W hW => by go_simp⟩, plan_force ?_⟩
      simp only [Act.put, List.setIfInBounds_toArray, List.set_cons_zero, List.set_cons_succ]
      simp only [List.cons_append, List.nil_append, List.append_nil, List.filterMap_cons, List.filterMap_nil, List.getElem?_toArray, List.getElem?_cons_zero, List.getElem?_cons_succ]
      refine wpList_store_row (by rfl) 23 _ _ (by rfl) (wd.heap.size) (va 256 (iv .u8 fun _ => 0)) (by rfl) (by rfl) 23 _ q3 (sizeBk.trans (by rw [va_size])) (by rw [va_size]) (iv_one _ _ _) ?_
      simp only [Act.put, List.setIfInBounds_toArray, List.set_cons_zero, List.set_cons_succ]
      go_wp2_with fail
      refine ⟨rfl, (r3.other _ (Nat.ne_of_lt r2.lt)), plan_fin ?_⟩
      simp only [List.cons_append, List.nil_append, List.append_nil, List.filterMap_cons, List.filterMap_nil, List.getElem?_toArray, List.getElem?_cons_zero, List.getElem?_cons_succ]
      go_wp2_with fail
      refine ⟨rfl, ?_⟩
      go_wp2_with fail
      go_meet
      exact ⟨rfl, r3.other _ (Nat.ne_of_lt r2.lt), k3.other _ (Nat.ne_of_lt k2.lt), below_setRow hb4 (Nat.le_refl _) _⟩
  case rest =>
    obtain ⟨rfl, r3, k3, hb3⟩ := hcut
    rename World => w3
    have HG3 : Hid (Blk w3 c 75 (caC (some ⟨g, 0, none⟩) lp room m o n h r bd cn)) := HG2.out.below hb3 HG2.out.lt
    have HD3 : Hid (DiskQ w3 B g N F kk lg q) := HD2.out.below hb3
    have hbw : Below w.heap.size w w3 := hb2.trans (hb3.mono hb2.size)
    clear r2 k2 HG2 HM2 HD2 hb2 hb3 hU
    go_wp2_with (first
      | (refine wpList_load_rowg (by rfl) 35 _ (by rfl) (w.heap.size) (by rfl) 35 (rfC k) (0, 0) _ (by exact r3) Try.underlying35 (by rfl) (slSizeRef.trans (by rw [rfC_size])) ?_; simp only [Act.put, List.setIfInBounds_toArray, List.set_cons_zero, List.set_cons_succ])
      | fail)
    refine (hRd.out _ HG3.out HD3.out).mono ?_
    rintro e w4 ⟨rfl, hb⟩
    have k4 := k3.below hb k3.lt
    have hb4 : Below w.heap.size w w4 := hbw.trans (hb.mono hbw.size)
    have q0 := Blk.new w4 23 (va 256 (iv .u8 fun _ => 0))
    have q1 := q0.set (va 256 (iv .u8 fun _ => 0))
    have k5 : Blk ((w4.alloc (.cells (va 256 (iv .u8 fun _ => 0)) 23)).setRow w4.heap.size (va 256 (iv .u8 fun _ => 0))) (w.heap.size + 1) 23 (va 256 (iv .u8 fun _ => 0)) := (k4.alloc _).other _ (Nat.ne_of_lt k4.lt)
    have hb5 : Below w.heap.size w ((w4.alloc (.cells (va 256 (iv .u8 fun _ => 0)) 23)).setRow w4.heap.size (va 256 (iv .u8 fun _ => 0))) := below_setRow (hb4.alloc hb4.size _) hb4.size _
    clear hb r3 k3 HG3 HD3 hbw hRd k4 hb4
    go_wp2_with (first
      | (refine wpList_store_row (by rfl) 23 _ _ (by rfl) (w4.heap.size) (va 256 (iv .u8 (fun _ => 0))) (by rfl) (by rfl) 23 _ q0 (sizeBk.trans (by rw [va_size])) (by simp only [va_size]) (iv_one _ _ _) ?_; simp only [Act.put, List.setIfInBounds_toArray, List.set_cons_zero, List.set_cons_succ])
      | (refine wpList_load_row (by rfl) 23 _ (by rfl) (w4.heap.size) (by rfl) 23 (va 256 (iv .u8 (fun _ => 0))) (0, 0) _ q1 Try.underlying23 (by rfl) (sizeBk.trans (by rw [va_size])) ?_; simp only [Act.put, List.setIfInBounds_toArray, List.set_cons_zero, List.set_cons_succ])
      | (refine wpList_store_row (by rfl) 23 _ _ (by rfl) (w.heap.size + 1) (va 256 (iv .u8 (fun _ => 0))) (by rfl) (by rfl) 23 _ k5 (sizeBk.trans (by rw [va_size])) (by simp only [va_size]) (iv_one _ _ _) ?_; simp only [Act.put, List.setIfInBounds_toArray, List.set_cons_zero, List.set_cons_succ])
      | fail)
    try simp only [Exit.inBlock, Exit.then]
    refine bodyPost_ret (results_row2 Try.results23 _ _ (w.heap.size + 1) 23 (va 256 (iv .u8 (fun _ => 0))) (0, 0) _ rfl ((k5.set _)) Try.underlying23 rfl (sizeBk.trans (by rw [va_size]))) rfl ?_
    exact ⟨rfl, below_setRow hb5 (by omega) _⟩
end
end Go.Proofs.Ytdniigefmlmcdab

namespace Go.Proofs.Ytdniigefmlmcdab
open Go Go.RowKit
set_option linter.unusedSimpArgs false
set_option linter.unusedVariables false

theorem infoRefA : (Try.prog.info? 35).map (fun i => (i.zero, i.size, i.bytes)) = some (some (.agg (rfC rf0)), 33, 36) := by kernel_rfl
/-- an own slice of nothing, with room -/
theorem own_room {w : World} {g t n size : Nat} {cur : Array Value} (h : Blk w g t cur) (hc : cur.size = n * size) (hn : n ≤ 8192) (B : Nat) (hB : B ≤ g) : w.ownsRow B t size (.slice (some ⟨g, 0, none⟩) 0 n) 0 [] :=
  ⟨by simp, .inr ⟨g, n, cur, rfl, hB, h, Nat.zero_le _, by unfold maxLen; omega, hc, by simp⟩⟩
theorem make_refs1 (w : World) : ∃ cur : Array Value, cur.size = 1 * 33 ∧ (Instr.makeSlice 45 (.int .i64 0) (.int .i64 1)).run Try.prog w = .ok (.slice (some ⟨w.heap.size, 0, none⟩) 0 1) (w.alloc (.cells cur 35)) := by
  obtain ⟨i0, hi, hz0, hz1, hz2⟩ := info_parts infoRefA
  have := run_make (P := Try.prog) w 45 35 i0 (.agg (rfC rf0)) Try.underlying45 hi hz0 .i64 .i64 0 1 (by omega) (by omega) (by rw [hz2]; omega) (by omega)
  rw [hz1] at this
  exact ⟨_, size_madeCells _ _, this⟩
theorem rf_mem_one (k : Rf) : ∀ u ∈ (rfC k).toList, u.oneCell' = true := fun u hu => by
  have := Array.all_eq_true_iff_forall_mem.1 (rfC_all k) u (by simpa using hu)
  exact this
theorem en_ref {w : World} {b : Nat} {k : Rf} {f : Nat → Nat} {o n : Option Addr} (h : Blk w b 95 (enC k f o n)) : w.rangeAt b 0 ((List.range 33).map (rfF k.1 k.2)) := by
  have := Blk.range (n := 291) (f := enF k f o n) h 0 33 (by decide)
  rw [show ((List.range 33).map fun j => enF k f o n (0 + j)) = (List.range 33).map (rfF k.1 k.2) from List.map_congr_left fun j hj => ?_] at this
  · exact this
  · have hj := List.mem_range.1 hj
    unfold enF
    rw [Nat.zero_add, if_pos (by omega)]
section
variable {c m b B g N kk lg : Nat} {F : Nat → Nat} {q : QD} {dp lp : Option Addr} {room h r bd cn : Int}
set_option maxRecDepth 100000 in
set_option maxHeartbeats 4000000 in
theorem entries_one (k : Rf) (f : Nat → Nat) (w : World) (hg : Blk w c 75 (caC dp lp room m (some ⟨b, 0, none⟩) (some ⟨b, 0, none⟩) h r bd cn)) (he : Blk w b 95 (enC k f none none)) (hm : MapIs rfV ptV w m [(k, b)]) : Calls Try.prog 26 #[.pointer (some ⟨c, 0, none⟩)] w fun e w' => ∃ v, e = .returned v ∧ w'.ownsRow w.heap.size 35 33 v 1 (rfC k).toList ∧ Below w.heap.size w w' := by
  obtain ⟨i0, hi, hz0, hz1, hz2⟩ := info_parts infoRefA
  obtain ⟨cur, hcur, hmk⟩ := make_refs1 w
  have c3 : w.cell? ⟨c, 3, none⟩ = some (.map (some m)) := (hg.cell 3).trans rfl
  have hlen : ∀ ty, (Builtin.len_ #[67] ty #[.map (some m)]).run Try.prog w = .ok (.int .i64 1) w := fun ty => map_len hm ty
  have hb1 : Below w.heap.size w (w.alloc (.cells cur 35)) := below_new1 _ _
  have c4 : (w.alloc (.cells cur 35)).cell? ⟨c, 4, none⟩ = some (.pointer (some ⟨b, 0, none⟩)) := ((hg.below hb1 hg.lt).cell 4).trans rfl
  have HE1 : Hid (Blk (w.alloc (.cells cur 35)) b 95 (enC k f none none)) := he.below hb1 he.lt
  have HO1 : Hid ((w.alloc (.cells cur 35)).ownsRow w.heap.size 35 33 (.slice (some ⟨w.heap.size, 0, none⟩) 0 1) 0 []) := own_room (Blk.new w 35 cur) hcur (by decide) _ (Nat.le_refl _)
  have HE0 : Hid (Blk w b 95 (enC k f none none)) := he
  clear hg he hm hcur
  go_enter Try.func26, Try.ntmps26
  go_wp2_with fail
  clear c3 hlen hmk c4
  generalize (w.alloc (.cells cur 35)) = w1 at *
  go_loopw [3, 4] (fun v p wr => ∃ (a : Option Addr) (i cap : Nat), v = .slice a i cap ∧ (i = 0 ∧ p = .pointer (some ⟨b, 0, none⟩) ∧ wr.ownsRow w.heap.size 35 33 v 0 [] ∨ i = 1 ∧ p = .pointer none ∧ wr.ownsRow w.heap.size 35 33 v 1 (rfC k).toList) ∧ Blk wr b 95 (enC k f none none) ∧ Below w.heap.size w wr) (fun _ p _ => match p with | .pointer none => 0 | _ => 1)
  case atStart => exact ⟨_, 0, 1, rfl, .inl ⟨rfl, rfl, HO1.out⟩, HE1.out, hb1⟩
  case round =>
    clear HO1 HE1 hb1
    obtain ⟨a, i, cap, rfl, hcase, he, hb⟩ := hrel
    rcases hcase with ⟨rfl, rfl, hown⟩ | ⟨rfl, rfl, hown⟩
    · have HR : Hid (wr.rangeAt b 0 ((List.range 33).map (rfF k.1 k.2))) := en_ref he
      have HW : Hid (w.heap.size ≤ wr.heap.size) := hb.size
      have hv := hown.lt
      have HOWN : Hid ((wr.alloc (.cells (rfC k) 35)).ownsRow w.heap.size 35 33 (.slice a 0 cap) 0 []) := hown.alloc _
      have HNEW : Hid (∀ j u, (rfC k).toList[j]? = some u → (wr.alloc (.cells (rfC k) 35)).cell? ((⟨wr.heap.size, 0, none⟩ : Addr).add j) = some u) := cells_new wr _ _
      have HMEM : Hid (∀ u ∈ (rfC k).toList, u.oneCell' = true) := rf_mem_one k
      have HLEN : Hid ((rfC k).toList.length = 1 * 33) := by
        show _ = _
        rw [Array.length_toList, rfC_size]
      have HB : Hid (Below w.heap.size w (wr.alloc (.cells (rfC k) 35))) := hb.alloc hb.size _
      have HE : Hid (Blk (wr.alloc (.cells (rfC k) 35)) b 95 (enC k f none none)) := he.alloc _
      have HV : Hid (∀ x, (Value.slice a 0 cap).ownBlock = some x → w.heap.size ≤ x ∧ x < wr.heap.size) := hv
      have hbs : w.heap.size ≤ (wr.alloc (.cells (rfC k) 35)).heap.size := HB.out.size
      clear hown he hb hv
      go_wp2_with (first
        | (refine wpList_load_blk (by rfl) 35 _ (by rfl) (b) (0) 33 (rfF k.1 k.2) (by rfl) _ (by exact HR.out) Try.underlying35 rfl slSizeRef ?_; simp only [Act.put, List.setIfInBounds_toArray, List.set_cons_zero, List.set_cons_succ])
        | (refine wpList_build1 (by rfl) 45 35 _ (by rfl) (rfC k) (by rfl) i0 _ 33 Try.underlying45 hi hz0 hz1 (rfC_size _) (by decide) (by decide) ?_; simp only [Act.put, List.setIfInBounds_toArray, List.set_cons_zero, List.set_cons_succ])
        | (at_builtin; refine wpList_append_own_at rfl _ _ 45 rfl w.heap.size 35 i0 (.agg (rfC rf0)) 33 36 Try.underlying45 hi hz0 hz1 hz2 (rfC_size _) (by decide) _ _ _ rfl HOWN.out ⟨wr.heap.size, 0, none⟩ 1 1 (rfC k).toList rfl HLEN.out HNEW.out HMEM.out (by unfold maxLen; omega) (by omega) hbs ?_)
        | fail)
      intro v' w2 hown' hgrow _
      have hb2 : Below w.heap.size w w2 := HB.out.grown hgrow hbs (fun x hx => (HV.out x hx).1)
      have he2 : Blk w2 b 95 (enC k f none none) := HE0.out.below hb2 HE0.out.lt
      have z2 : w2.cell? ⟨b, 290, none⟩ = some (.pointer none) := en_cN he2
      have HE2 : Hid (Blk w2 b 95 (enC k f none none)) := he2
      obtain ⟨a2, cap2, rfl⟩ := kown_slice hown'
      have HOW2 : Hid (w2.ownsRow w.heap.size 35 33 (.slice a2 1 cap2) 1 (rfC k).toList) := hown'
      clear HOWN HNEW HMEM HLEN HV hgrow HB HE he2 hown' HR hbs
      go_wp2_with fail
      go_roundw
      case rel => exact ⟨a2, 1, cap2, rfl, .inr ⟨rfl, rfl, HOW2.out⟩, HE2.out, hb2⟩
      case measure => exact Nat.zero_lt_one
    · go_wp2_with fail
      go_ret
      exact ⟨_, rfl, hown, hb⟩
theorem own_ref {w : World} {B g cap : Nat} {k : Rf} (h : w.ownsRow B 35 33 (.slice (some ⟨g, 0, none⟩) 1 cap) 1 (rfC k).toList) : w.rangeAt g 0 ((List.range 33).map (rfF k.1 k.2)) := fun j u hu => by
  have hj : j < 33 := by
    have := (List.getElem?_eq_some_iff.1 hu).1
    simpa using this
  rw [Nat.zero_add, h.cellAt j (by omega), ← hu]
  unfold rfC
  rw [va_toList]
set_option maxRecDepth 100000 in
set_option maxHeartbeats 4000000 in
theorem sweep_dead (k : Rf) (hk0 : k.1 ≠ 0) (hkN : k.1 < N) (hN : N ≤ 8192) (f : Nat → Nat) (hdd : q.dd = true) (w : World) (hd : DiskQ w B g N F kk lg q) (hg : Blk w c 75 (caC (some ⟨g, 0, none⟩) lp room m (some ⟨b, 0, none⟩) (some ⟨b, 0, none⟩) h r bd cn)) (he : Blk w b 95 (enC k f none none)) (hm : MapIs rfV ptV w m [(k, b)]) : Calls Try.prog 11 #[.pointer (some ⟨c, 0, none⟩)] w fun e w' => e = .returned (.tuple #[.slice none 0 0, .int .i64 4]) ∧ Below w.heap.size w w' := by
  have hzr := zero_ref
  have hE : Hid (Calls Try.prog 26 #[.pointer (some ⟨c, 0, none⟩)] w fun e w' => ∃ v, e = .returned v ∧ w'.ownsRow w.heap.size 35 33 v 1 (rfC k).toList ∧ Below w.heap.size w w') := entries_one k f w hg he hm
  have hC : Hid (∀ w : World, Blk w c 75 (caC (some ⟨g, 0, none⟩) lp room m (some ⟨b, 0, none⟩) (some ⟨b, 0, none⟩) h r bd cn) → DiskQ w B g N F kk lg q → Calls Try.prog 27 #[.pointer (some ⟨c, 0, none⟩), .agg (rfC k)] w fun e w' => e = .returned (.int .i64 4) ∧ Below w.heap.size w w') := fun w h1 h2 => caCheck_dead k hk0 hkN hN hdd w h2 h1
  have HG : Hid (Blk w c 75 (caC (some ⟨g, 0, none⟩) lp room m (some ⟨b, 0, none⟩) (some ⟨b, 0, none⟩) h r bd cn)) := hg
  have HD : Hid (DiskQ w B g N F kk lg q) := hd
  clear hk0 hkN hN hdd hd hg he hm
  go_enter Try.func11, Try.ntmps11
  go_wp2_with fail
  refine hE.out.mono ?_
  rintro e w1 ⟨v, rfl, hown, hb1⟩
  obtain ⟨g1, cap1, rfl, hg1, hg1'⟩ := kown_form hown (by decide)
  have HR1 : Hid (w1.rangeAt g1 0 ((List.range 33).map (rfF k.1 k.2))) := own_ref hown
  clear hown hE
  go_wp2_with fail
  go_loopw [15] (fun t wr => t = .int .i64 0 ∧ wr = w1) (fun _ _ => 1)
  case atStart => exact ⟨rfl, rfl⟩
  case round =>
    obtain ⟨rfl, rfl⟩ := hrel
    have x0 := Blk.new wr 35 (rfC rf0)
    have x1 := x0.set (rfC k)
    have hb2 : Below wr.heap.size wr ((wr.alloc (.cells (rfC rf0) 35)).setRow wr.heap.size (rfC k)) := below_setRow (below_new1 _ _) (Nat.le_refl _) _
    have HG2 : Hid (Blk ((wr.alloc (.cells (rfC rf0) 35)).setRow wr.heap.size (rfC k)) c 75 (caC (some ⟨g, 0, none⟩) lp room m (some ⟨b, 0, none⟩) (some ⟨b, 0, none⟩) h r bd cn)) := (HG.out.below hb1 HG.out.lt).below hb2 (HG.out.below hb1 HG.out.lt).lt
    have HD2 : Hid (DiskQ ((wr.alloc (.cells (rfC rf0) 35)).setRow wr.heap.size (rfC k)) B g N F kk lg q) := (HD.out.below hb1).below hb2
    have hb3 : Below w.heap.size w ((wr.alloc (.cells (rfC rf0) 35)).setRow wr.heap.size (rfC k)) := hb1.trans (hb2.mono hb1.size)
    clear hb1 hb2 HG HD
    go_wp2_with (first
      | (refine wpList_load_blk (by rfl) 35 _ (by rfl) (g1) (0) 33 (rfF k.1 k.2) (by rfl) _ (by exact HR1.out) Try.underlying35 rfl slSizeRef ?_; simp only [Act.put, List.setIfInBounds_toArray, List.set_cons_zero, List.set_cons_succ])
      | (refine wpList_store_row (by rfl) 35 _ _ (by rfl) (wr.heap.size) (rfC k) (by rfl) (by rfl) 35 (_) (by exact x0) (slSizeRef.trans (by rw [rfC_size])) (by simp only [rfC_size]) (rfC_all _) ?_; simp only [Act.put, List.setIfInBounds_toArray, List.set_cons_zero, List.set_cons_succ])
      | (refine wpList_load_rowg (by rfl) 35 _ (by rfl) (wr.heap.size) (by rfl) 35 (rfC k) (0, 0) _ (by exact x1) Try.underlying35 (by rfl) (slSizeRef.trans (by rw [rfC_size])) ?_; simp only [Act.put, List.setIfInBounds_toArray, List.set_cons_zero, List.set_cons_succ])
      | fail)
    clear x0 x1 HR1
    generalize ((wr.alloc (.cells (rfC rf0) 35)).setRow wr.heap.size (rfC k)) = w3 at *
    refine (hC.out _ HG2.out HD2.out).mono ?_
    rintro e w4 ⟨rfl, hb⟩
    have hb4 : Below w.heap.size w w4 := hb3.trans (hb.mono hb3.size)
    clear hb hb3 HG2 HD2
    go_wp2_with fail
    try simp only [Exit.inBlock, Exit.then]
    refine bodyPost_ret (results_tmp2 Try.results11 _ _ _) rfl ?_
    exact ⟨rfl, hb4⟩
end
set_option maxRecDepth 100000 in
set_option maxHeartbeats 4000000 in
theorem sweep_nil (w : World) : Calls Try.prog 11 #[.pointer none] w fun e w' => e = .returned (.tuple #[.slice none 0 0, .int .i64 4]) ∧ w = w' := by
  go_enter Try.func11, Try.ntmps11
  go_wp2_with fail
  try simp only [Exit.inBlock, Exit.then]
  refine bodyPost_ret (results_tmp2 Try.results11 _ _ _) rfl ?_
  exact ⟨rfl, rfl⟩
end Go.Proofs.Ytdniigefmlmcdab
