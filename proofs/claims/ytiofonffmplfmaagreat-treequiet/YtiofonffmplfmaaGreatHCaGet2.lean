/- A cache of however many entries on a quiet disk, without a log: Get. -/
import Derived.Test.YtiofonffmplfmaaGreatHCaRead
import Derived.Deep.DeepCutAuto
import Derived.Deep.Cut
import Derived.Handy

namespace Go.Proofs.YtiofonffmplfmaaGreat
theorem sgLHCaGet2 : (∀ (α : Type) (a : α) (l r : List α), (a :: l) ++ r = a :: (l ++ r)) ∧ (∀ (α : Type) (l : List α), [] ++ l = l) ∧ (∀ (α : Type) (l : List α), l ++ [] = l) ∧ (∀ (α β : Type) (f : α → Option β) (a : α) (l : List α), (a :: l).filterMap f = match f a with | none => l.filterMap f | some b => b :: l.filterMap f) ∧ (∀ (α β : Type) (f : α → Option β), [].filterMap f = []) ∧ (∀ (α : Type) (l : List α) (i : Nat), l.toArray[i]? = l[i]?) ∧ (∀ (α : Type) (a : α) (l : List α), (a :: l)[0]? = some a) ∧ (∀ (α : Type) (a : α) (l : List α) (i : Nat), (a :: l)[i + 1]? = l[i]?) :=
  ⟨fun _ _ _ _ => List.cons_append, fun _ _ => List.nil_append _, fun _ _ => List.append_nil _, fun _ _ _ _ _ => List.filterMap_cons, fun _ _ _ => List.filterMap_nil, fun _ _ _ => List.getElem?_toArray, fun _ _ _ => List.getElem?_cons_zero, fun _ _ _ _ => List.getElem?_cons_succ⟩
theorem sgPHCaGet2 : (∀ (α : Type) (l : List α) (i : Nat) (a : α), l.toArray.setIfInBounds i a = (l.set i a).toArray) ∧ (∀ (α : Type) (a b : α) (l : List α), (a :: l).set 0 b = b :: l) ∧ (∀ (α : Type) (a b : α) (l : List α) (i : Nat), (a :: l).set (i + 1) b = a :: l.set i b) :=
  ⟨fun _ _ _ _ => List.setIfInBounds_toArray _ _ _, fun _ _ _ _ => List.set_cons_zero, fun _ _ _ _ _ => List.set_cons_succ⟩
end Go.Proofs.YtiofonffmplfmaaGreat
namespace Go.Proofs.YtiofonffmplfmaaGreat
open Go Go.RowKit
set_option linter.unusedSimpArgs false
set_option linter.unusedVariables false

section
variable {w w' : World} {c m B g N kk lg room : Nat} {F : Nat → Nat} {q q' : QD} {dp lp : Option Addr} {h r bd cn h2 r2 bd2 cn2 : Int} {L L1 : List En} {i : Nat} {e : En} {k : Rf}
/-- what is counted turns, nothing else -/
theorem CaAt.count {room : Int} (H : CaAt w c m dp lp room h r bd cn L) (hc : Blk w' c 133 (caC dp lp room m (headOf L) (lastOf L) h2 r2 bd2 cn2)) (hk : ∀ x, cafo c m L x → x ≠ c → w'.heap[x]? = w.heap[x]?) : CaAt w' c m dp lp room h2 r2 bd2 cn2 L :=
  ⟨⟨hc, fun i e he => (hk e.b (.inl (.inr ⟨e, List.mem_of_getElem? he, rfl⟩)) (blk_neT (H.ch.ents i e he) H.ch.blk (by decide))).trans (H.ch.ents i e he), H.ch.nd⟩, H.mp.of (hk m (.inr rfl) (H.mp.ne H.ch.blk))⟩
/-- a disk and a cache on it -/
structure CD (w : World) (B g N : Nat) (F : Nat → Nat) (kk lg : Nat) (q : QD) (c m room : Nat) (h r bd cn : Int) (L : List En) : Prop where
  d : DiskQ w B g N F kk lg q
  ca : CaAt w c m (some ⟨g, 0, none⟩) none (room : Int) h r bd cn L
  ap : ∀ x, cafo c m L x → ¬ foot g N q x
  lo : ∀ x, cafo c m L x → B ≤ x
/-- its blocks -/
def cdfo (g N : Nat) (q : QD) (c m : Nat) (L : List En) (x : Nat) : Prop := foot g N q x ∨ cafo c m L x
theorem CD.below (H : CD w B g N F kk lg q c m room h r bd cn L) (hb : Below w.heap.size w w') : CD w' B g N F kk lg q c m room h r bd cn L := ⟨H.d.below hb, H.ca.below hb, H.ap, H.lo⟩
theorem CD.kept (H : CD w B g N F kk lg q c m room h r bd cn L) (hk : ∀ x, cdfo g N q c m L x → w'.heap[x]? = w.heap[x]?) : CD w' B g N F kk lg q c m room h r bd cn L := ⟨H.d.kept fun x hx => hk x (.inl hx), H.ca.kept fun x hx => hk x (.inr hx), H.ap, H.lo⟩
theorem CD.lt (H : CD w B g N F kk lg q c m room h r bd cn L) (x : Nat) (hx : cdfo g N q c m L x) : B ≤ x ∧ x < w.heap.size := by
  rcases hx with hx | hx
  · exact H.d.foots x hx
  · exact ⟨H.lo x hx, H.ca.lt x hx⟩
end
set_option maxRecDepth 100000 in
set_option maxHeartbeats 4000000 in
theorem get_none (p : Option Addr) (w : World) : Calls Tryz.prog 32 #[.pointer p, .agg (rfC rf0)] w fun x w' => x = .returned (.tuple #[.agg (va 256 (iv .u8 fun _ => 0)), .int .i64 0]) ∧ Below w.heap.size w w' := by
  have hz := zero_bk
  have hN : Hid (∀ w, Calls Tryz.prog 50 #[.agg (rfC rf0)] w fun e w' => e = .returned (.bool true) ∧ Below w.heap.size w w') := fun w => by
    have := none_any rf0 w
    rw [decide_eq_true rfl] at this
    exact this
  have hb1 : Below w.heap.size w ((w.alloc (.cells (rfC rf0) 43)).alloc (.cells (va 256 (iv .u8 fun _ => 0)) 52)) := below_new2 _ _ _
  have r1 : Blk ((w.alloc (.cells (rfC rf0) 43)).alloc (.cells (va 256 (iv .u8 fun _ => 0)) 52)) w.heap.size 43 (rfC rf0) := (Blk.new _ _ _).alloc _
  have k1 : Blk ((w.alloc (.cells (rfC rf0) 43)).alloc (.cells (va 256 (iv .u8 fun _ => 0)) 52)) (w.heap.size + 1) 52 (va 256 (iv .u8 fun _ => 0)) := Blk.new1 _ _ _ _
  go_enter Tryz.func32, Tryz.ntmps32
  go_wp2_with (first
    | (refine wpList_load_rowg (by rfl) 43 _ (by rfl) (w.heap.size) (by rfl) 43 (rfC rf0) (0, 0) _ (by exact r1) Tryz.underlying43 (by rfl) (slSizeRef.trans (by rw [rfC_size])) ?_; simp only [Act.put, sgPHCaGet2])
    | fail)
  generalize ((w.alloc (.cells (rfC rf0) 43)).alloc (.cells (va 256 (iv .u8 fun _ => 0)) 52)) = w1 at *
  refine (hN.out _).mono ?_
  rintro e w2 ⟨rfl, hb⟩
  have k2 := k1.below hb k1.lt
  have hb2 : Below w.heap.size w w2 := hb1.trans (hb.mono hb1.size)
  clear hb k1 r1 hb1
  go_wp2_with (first
    | (refine wpList_store_row (by rfl) 52 _ _ (by rfl) (w.heap.size + 1) (va 256 (iv .u8 (fun _ => 0))) (by rfl) (by rfl) 52 _ k2 (sizeBk.trans (by rw [va_size])) (by simp only [va_size]) (iv_one _ _ _) ?_; simp only [Act.put, sgPHCaGet2])
    | fail)
  try simp only [Exit.inBlock, Exit.then]
  refine bodyPost_ret (results_row2 Tryz.results32 _ _ (w.heap.size + 1) 52 (va 256 (iv .u8 (fun _ => 0))) (0, 0) _ rfl ((k2.set _)) Tryz.underlying52 rfl (sizeBk.trans (by rw [va_size]))) rfl ?_
  exact ⟨rfl, below_setRow hb2 (by omega) _⟩
section
variable {c m B g N kk lg room : Nat} {F : Nat → Nat} {q : QD} {dp lp : Option Addr} {h r bd cn : Int} {L L1 : List En} {i : Nat} {e : En} {k : Rf}
set_option maxRecDepth 100000 in
set_option maxHeartbeats 4000000 in
theorem get_hit (hi : L[i]? = some e) (hek : e.k = k) (hk0 : k ≠ rf0) (hh : 0 ≤ h ∧ h < 4611686018427387904) (w : World) (H : CaAt w c m dp lp (room : Int) h r bd cn L) : Calls Tryz.prog 32 #[.pointer (some ⟨c, 0, none⟩), .agg (rfC k)] w fun x w' => x = .returned (.tuple #[.agg (va 256 (iv .u8 e.f)), .int .i64 0]) ∧ CaAt w' c m dp lp (room : Int) (h + 1) r bd cn (L.eraseIdx i ++ [e]) ∧ Turns (cafo c m L) w w' := by
  have hU : Hid (∀ w : World, CaAt w c m dp lp (room : Int) h r bd cn L → Calls Tryz.prog 53 #[.pointer (some ⟨c, 3, none⟩), .agg (rfC k)] w fun x w' => x = .returned (.tuple #[.agg (va 256 (iv .u8 e.f)), .bool true]) ∧ CaAt w' c m dp lp (room : Int) h r bd cn (L.eraseIdx i ++ [e]) ∧ Turns (cafo c m L) w w') := fun w h1 => hek ▸ use_hit hi w h1
  have HFO : Hid (∀ z, cafo c m (L.eraseIdx i ++ [e]) z → cafo c m L z) := fun z hz => by
    rcases hz with (hz | ⟨x, hx, hz⟩) | hz
    · exact .inl (.inl hz)
    · exact .inl (.inr ⟨x, (mem_moved hi x).1 hx, hz⟩)
    · exact .inr hz
  clear hi hek
  generalize e.f = ef at *
  generalize (L.eraseIdx i ++ [e]) = LX at *
  have hz := zero_bk
  have hN : Hid (∀ w, Calls Tryz.prog 50 #[.agg (rfC k)] w fun e w' => e = .returned (.bool false) ∧ Below w.heap.size w w') := fun w => by
    have := none_any k w
    rw [decide_eq_false hk0] at this
    exact this
  have hb1 : Below w.heap.size w ((w.alloc (.cells (rfC k) 43)).alloc (.cells (va 256 (iv .u8 fun _ => 0)) 52)) := below_new2 _ _ _
  have r1 : Blk ((w.alloc (.cells (rfC k) 43)).alloc (.cells (va 256 (iv .u8 fun _ => 0)) 52)) w.heap.size 43 (rfC k) := (Blk.new _ _ _).alloc _
  have k1 : Blk ((w.alloc (.cells (rfC k) 43)).alloc (.cells (va 256 (iv .u8 fun _ => 0)) 52)) (w.heap.size + 1) 52 (va 256 (iv .u8 fun _ => 0)) := Blk.new1 _ _ _ _
  have HC1 : Hid (CaAt ((w.alloc (.cells (rfC k) 43)).alloc (.cells (va 256 (iv .u8 fun _ => 0)) 52)) c m dp lp (room : Int) h r bd cn L) := H.below hb1
  have HLT : Hid (∀ x, cafo c m L x → x < w.heap.size) := H.lt
  have HCL : Hid (c < w.heap.size) := H.lt c (.inl (.inl rfl))
  have HS1 : Hid (w.heap.size + 2 ≤ ((w.alloc (.cells (rfC k) 43)).alloc (.cells (va 256 (iv .u8 fun _ => 0)) 52)).heap.size) := by
    show _ ≤ _
    simp
  clear H hk0
  go_enter Tryz.func32, Tryz.ntmps32
  go_wp2_with (first
    | (refine wpList_load_rowg (by rfl) 43 _ (by rfl) (w.heap.size) (by rfl) 43 (rfC k) (0, 0) _ (by exact r1) Tryz.underlying43 (by rfl) (slSizeRef.trans (by rw [rfC_size])) ?_; simp only [Act.put, sgPHCaGet2])
    | fail)
  generalize ((w.alloc (.cells (rfC k) 43)).alloc (.cells (va 256 (iv .u8 fun _ => 0)) 52)) = w1 at *
  refine (hN.out _).mono ?_
  rintro e w2 ⟨rfl, hb⟩
  have r2 : Blk w2.drew w.heap.size 43 (rfC k) := r1.below hb.drew r1.lt
  have k2 : Blk w2.drew (w.heap.size + 1) 52 (va 256 (iv .u8 fun _ => 0)) := k1.below hb.drew k1.lt
  have HC2 : Hid (CaAt w2.drew c m dp lp (room : Int) h r bd cn L) := HC1.out.below hb.drew
  have HSZ : Hid (w.heap.size + 2 ≤ w2.drew.heap.size) := Nat.le_trans HS1.out hb.size
  have HT2 : Hid (Turns (cafo c m L) w w2.drew) := .of_below (hb1.trans (hb.drew.mono hb1.size))
  clear hb r1 k1 HC1 HS1 hb1 hN
  go_wp2_with fail
  go_cut [6, 7] (fun v6 v7 wx => v7 = .bool true ∧ ∃ x, v6 = .pointer (some ⟨x, 0, none⟩) ∧ w.heap.size + 2 ≤ x ∧ Blk wx x 52 (va 256 (iv .u8 ef)) ∧ Blk wx w.heap.size 43 (rfC k) ∧ Blk wx (w.heap.size + 1) 52 (va 256 (iv .u8 fun _ => 0)) ∧ CaAt wx c m dp lp (room : Int) h r bd cn LX ∧ Turns (cafo c m L) w wx)
  case first =>
    refine wp_region_plan (fun W => Blk W w.heap.size 43 (rfC k)) (.yield [0] 1 (.yield [] 2 (.yield [] 3 (.fork 4 8 (.force [5, 6, 7] 8 (.force [] 9 (.fin [10]))) (.force [] 4 (.yield [5] 6 (.yield [] 7 (.force [] 9 (.fin [10]))))))))) (by kernel_rfl) (by kernel_rfl) r2 (plan_yield ?_)
    generalize w2.drew = wd at *
    simp only [sgLHCaGet2]
    go_wp2_with fail
    first | (refine ⟨rfl, _, .pointer (some ⟨c, 0, none⟩), rfl, Or.inl ⟨by rfl, fun W hW => by go_simp⟩, plan_yield ?_⟩) | (refine ⟨rfl, .pointer (some ⟨c, 0, none⟩), Or.inl ⟨by rfl, fun W hW => by go_simp⟩, plan_yield ?_⟩)
    simp only [Act.put, sgPHCaGet2]
    simp only [sgLHCaGet2]
    go_wp2_with fail
    first | (refine ⟨rfl, _, .pointer (some ⟨c, 3, none⟩), rfl, Or.inl ⟨by rfl, fun W hW => by go_simp⟩, plan_yield ?_⟩) | (refine ⟨rfl, .pointer (some ⟨c, 3, none⟩), Or.inl ⟨by rfl, fun W hW => by go_simp⟩, plan_yield ?_⟩)
    simp only [Act.put, sgPHCaGet2]
    simp only [sgLHCaGet2]
    go_wp2_with fail
    first | (refine ⟨rfl, _, .agg (rfC k), rfl, kyields_load (by rfl) 43 _ (by rfl) w.heap.size 33 (rfF k.1 k.2) (by rfl) _ 43 (fun W hW => hW) Tryz.underlying43 rfl slSizeRef, plan_fork ?_ ?_⟩) | (refine ⟨rfl, .agg (rfC k), kyields_load (by rfl) 43 _ (by rfl) w.heap.size 33 (rfF k.1 k.2) (by rfl) _ 43 (fun W hW => hW) Tryz.underlying43 rfl slSizeRef, plan_fork ?_ ?_⟩)
    simp only [Act.put, sgPHCaGet2]
    · simp only [sgLHCaGet2]
      go_wp2_with fail
      refine (hU.out _ HC2.out).mono ?_
      rintro x w3 ⟨rfl, hc3, ht3⟩
      have HC3 : Hid (CaAt w3 c m dp lp (room : Int) h r bd cn LX) := hc3
      have HT3 : Hid (Turns (cafo c m L) w w3) := HT2.out.trans ht3 fun x hx => .inl hx
      have r3 : Blk w3 w.heap.size 43 (rfC k) := ht3.blk r2 (fun z => by have := HLT.out _ z; omega)
      have k3 : Blk w3 (w.heap.size + 1) 52 (va 256 (iv .u8 fun _ => 0)) := ht3.blk k2 (fun z => by have := HLT.out _ z; omega)
      have hs3 : wd.heap.size ≤ w3.heap.size := ht3.size
      clear hc3 ht3
      go_wp2_with fail
      refine ⟨rfl, r3, plan_force ?_⟩
      simp only [sgLHCaGet2]
      have q0 := Blk.new w3 52 (va 256 (iv .u8 fun _ => 0))
      go_wp2_with fail
      refine ⟨rfl, (r3.alloc _), plan_force ?_⟩
      simp only [sgLHCaGet2]
      refine wpList_store_row (by rfl) 52 _ _ (by rfl) (w3.heap.size) (va 256 (iv .u8 ef)) (by rfl) (by rfl) 52 _ q0 (sizeBk.trans (by rw [va_size])) (by simp only [va_size]) (iv_one _ _ _) ?_
      simp only [Act.put, sgPHCaGet2]
      go_wp2_with fail
      refine ⟨rfl, ((r3.alloc _).other _ (Nat.ne_of_lt r3.lt)), plan_fin ?_⟩
      simp only [sgLHCaGet2]
      go_wp2_with fail
      refine ⟨rfl, ?_⟩
      go_wp2_with fail
      go_meet
      have hsz := HSZ.out
      exact ⟨rfl, w3.heap.size, rfl, by omega, q0.set _, (r3.alloc _).other _ (Nat.ne_of_lt r3.lt), (k3.alloc _).other _ (Nat.ne_of_lt k3.lt), (HC3.out.below (below_new1 _ _)).setRow (fun z => by have := HC3.out.lt _ z; omega) _, (HT3.out.alloc _).laid (by omega) _⟩
    · simp only [sgLHCaGet2]
      have q0 := Blk.new wd 52 (va 256 (iv .u8 fun _ => 0))
      go_wp2_with fail
      refine ⟨rfl, (r2.alloc _), plan_force ?_⟩
      simp only [sgLHCaGet2]
      go_wp2_with fail
      refine (hU.out _ (HC2.out.below (below_new1 _ _))).mono ?_
      rintro x w3 ⟨rfl, hc3, ht3⟩
      have HC3 : Hid (CaAt w3 c m dp lp (room : Int) h r bd cn LX) := hc3
      have HT3 : Hid (Turns (cafo c m L) w w3) := (HT2.out.alloc _).trans ht3 fun x hx => .inl hx
      have r3 : Blk w3 w.heap.size 43 (rfC k) := ht3.blk (r2.alloc _) (fun z => by have := HLT.out _ z; omega)
      have k3 : Blk w3 (w.heap.size + 1) 52 (va 256 (iv .u8 fun _ => 0)) := ht3.blk (k2.alloc _) (fun z => by have := HLT.out _ z; omega)
      have q3 : Blk w3 wd.heap.size 52 (va 256 (iv .u8 fun _ => 0)) := ht3.blk q0 (fun z => by have := HLT.out _ z; have := HSZ.out; omega)
      have hnx : ¬ cafo c m LX wd.heap.size := fun z => by
        have := HLT.out _ (HFO.out _ z)
        have := HSZ.out
        omega
      clear hc3 ht3
      go_wp2_with fail
      refine ⟨rfl, r3, plan_yield ?_⟩
      simp only [sgLHCaGet2]
      go_wp2_with fail
      first | (refine ⟨rfl, _, .agg (va 256 (iv .u8 ef)), rfl, Or.inl ⟨by rfl, fun W hW => by go_simp⟩, plan_yield ?_⟩) | (refine ⟨rfl, .agg (va 256 (iv .u8 ef)), Or.inl ⟨by rfl, fun W hW => by go_simp⟩, plan_yield ?_⟩)
      simp only [Act.put, sgPHCaGet2]
      simp only [sgLHCaGet2]
      go_wp2_with fail
      first | (refine ⟨rfl, _, .bool true, rfl, Or.inl ⟨by rfl, fun W hW => by go_simp⟩, plan_force ?_⟩) | (refine ⟨rfl, .bool true, Or.inl ⟨by rfl, fun W hW => by go_simp⟩, plan_force ?_⟩)
      simp only [Act.put, sgPHCaGet2]
      simp only [sgLHCaGet2]
      refine wpList_store_row (by rfl) 52 _ _ (by rfl) (wd.heap.size) (va 256 (iv .u8 ef)) (by rfl) (by rfl) 52 _ q3 (sizeBk.trans (by rw [va_size])) (by simp only [va_size]) (iv_one _ _ _) ?_
      simp only [Act.put, sgPHCaGet2]
      go_wp2_with fail
      refine ⟨rfl, (r3.other _ (by have := HSZ.out; omega)), plan_fin ?_⟩
      simp only [sgLHCaGet2]
      go_wp2_with fail
      refine ⟨rfl, ?_⟩
      go_wp2_with fail
      go_meet
      have hsz := HSZ.out
      exact ⟨rfl, wd.heap.size, rfl, by omega, q3.set _, r3.other _ (by omega), k3.other _ (by omega), HC3.out.setRow hnx _, HT3.out.laid (by omega) _⟩
  case rest =>
    obtain ⟨rfl, x, rfl, hx, q3, r3, k3, hc3, ht3⟩ := hcut
    clear r2 k2 HC2 HSZ HT2 hU
    rename World => wx
    have hcl := HCL.out
    have c6 : wx.cell? ⟨c, 6, none⟩ = some (.int .i64 h) := by
      rw [hc3.ch.blk.cell]
      rfl
    have f6 : wx.frozen? ⟨c, 6, none⟩ = false := hc3.ch.blk.frozen 6
    have HC4 : Hid (CaAt (wx.setCell ⟨c, 6, none⟩ (.int .i64 (h + 1))) c m dp lp (room : Int) (h + 1) r bd cn LX) := hc3.count (hc3.ch.blk.put 6 _) fun z hz hne => Deep.blk_setCell_other wx ⟨c, 6, none⟩ _ z hne
    have q4 : Blk (wx.setCell ⟨c, 6, none⟩ (.int .i64 (h + 1))) x 52 (va 256 (iv .u8 ef)) := blk_setNo q3 (by omega)
    have k4 : Blk (wx.setCell ⟨c, 6, none⟩ (.int .i64 (h + 1))) (w.heap.size + 1) 52 (va 256 (iv .u8 fun _ => 0)) := blk_setNo k3 (by omega)
    have HT4 : Hid (Turns (cafo c m L) w (wx.setCell ⟨c, 6, none⟩ (.int .i64 (h + 1)))) := turns_set ht3 (.inl (.inl rfl))
    obtain ⟨hh0, hh1⟩ := hh
    clear hc3 q3 k3 ht3 r3 hcl
    go_wp2_with (first
      | (refine wpList_load_row (by rfl) 52 _ (by rfl) (x) (by rfl) 52 (va 256 (iv .u8 ef)) (0, 0) _ q4 Tryz.underlying52 (by rfl) (sizeBk.trans (by rw [va_size])) ?_; simp only [Act.put, sgPHCaGet2])
      | (refine wpList_store_row (by rfl) 52 _ _ (by rfl) (w.heap.size + 1) (va 256 (iv .u8 ef)) (by rfl) (by rfl) 52 _ k4 (sizeBk.trans (by rw [va_size])) (by simp only [va_size]) (iv_one _ _ _) ?_; simp only [Act.put, sgPHCaGet2])
      | fail)
    try simp only [Exit.inBlock, Exit.then]
    refine bodyPost_ret (results_row2 Tryz.results32 _ _ (w.heap.size + 1) 52 (va 256 (iv .u8 ef)) (0, 0) _ rfl ((k4.set _)) Tryz.underlying52 rfl (sizeBk.trans (by rw [va_size]))) rfl ?_
    refine ⟨rfl, HC4.out.setRow (fun z => ?_) _, HT4.out.laid (by omega) _⟩
    have := HLT.out _ (HFO.out _ z)
    omega
set_option maxRecDepth 100000 in
set_option maxHeartbeats 4000000 in
theorem get_noBlock (hML : ∀ w : World, Blk w c 133 (caC (some ⟨g, 0, none⟩) none (room : Int) m (headOf L) (lastOf L) h r bd cn) → DiskQ w B g N F kk lg q → Calls Tryz.prog 72 #[.pointer (some ⟨c, 0, none⟩), .int .u32 (k.1 : Int)] w fun e w' => e = .returned (.bool false) ∧ w = w') (hn : ∀ e ∈ L, e.k ≠ k) (hk0 : k ≠ rf0) (w : World) (hB : B ≤ w.heap.size) (HCD : CD w B g N F kk lg q c m room h r bd cn L) : Calls Tryz.prog 32 #[.pointer (some ⟨c, 0, none⟩), .agg (rfC k)] w fun x w' => x = .returned (.tuple #[.agg (va 256 (iv .u8 fun _ => 0)), .int .i64 2]) ∧ CD w' B g N F kk lg q c m room h r bd cn L ∧ Turns (cdfo g N q c m L) w w' := by
  have H := HCD.ca
  have HCDw : Hid (CD w B g N F kk lg q c m room h r bd cn L) := HCD
  have HBw : Hid (B ≤ w.heap.size) := hB
  have hRD : Hid (∀ w : World, B ≤ w.heap.size → CaAt w c m (some ⟨g, 0, none⟩) none (room : Int) h r bd cn L → DiskQ w B g N F kk lg q → Calls Tryz.prog 54 #[.pointer (some ⟨c, 0, none⟩), .agg (rfC k)] w fun x w' => x = .returned (.tuple #[.agg (va 256 (iv .u8 fun _ => 0)), .int .i64 2]) ∧ Below w.heap.size w w') := fun w _ h1 h2 => read_noBlock k hML w h1.ch.blk h2
  clear hML
  have hU : Hid (∀ w : World, CaAt w c m (some ⟨g, 0, none⟩) none (room : Int) h r bd cn L → Calls Tryz.prog 53 #[.pointer (some ⟨c, 3, none⟩), .agg (rfC k)] w fun x w' => x = .returned (.tuple #[.agg (va 256 (iv .u8 fun _ => 0)), .bool false]) ∧ CaAt w' c m (some ⟨g, 0, none⟩) none (room : Int) h r bd cn L ∧ Turns (cafo c m L) w w') := fun w h1 => (use_no hn w h1).mono fun x w' ⟨a, b⟩ => ⟨a, h1.below b, .of_below b⟩
  have HFO : Hid (∀ z, cafo c m L z → cafo c m L z) := fun z hz => hz
  clear hn HCD hB
  have hz := zero_bk
  have hN : Hid (∀ w, Calls Tryz.prog 50 #[.agg (rfC k)] w fun e w' => e = .returned (.bool false) ∧ Below w.heap.size w w') := fun w => by
    have := none_any k w
    rw [decide_eq_false hk0] at this
    exact this
  have hb1 : Below w.heap.size w ((w.alloc (.cells (rfC k) 43)).alloc (.cells (va 256 (iv .u8 fun _ => 0)) 52)) := below_new2 _ _ _
  have r1 : Blk ((w.alloc (.cells (rfC k) 43)).alloc (.cells (va 256 (iv .u8 fun _ => 0)) 52)) w.heap.size 43 (rfC k) := (Blk.new _ _ _).alloc _
  have k1 : Blk ((w.alloc (.cells (rfC k) 43)).alloc (.cells (va 256 (iv .u8 fun _ => 0)) 52)) (w.heap.size + 1) 52 (va 256 (iv .u8 fun _ => 0)) := Blk.new1 _ _ _ _
  have HC1 : Hid (CaAt ((w.alloc (.cells (rfC k) 43)).alloc (.cells (va 256 (iv .u8 fun _ => 0)) 52)) c m (some ⟨g, 0, none⟩) none (room : Int) h r bd cn L) := H.below hb1
  have HLT : Hid (∀ x, cafo c m L x → x < w.heap.size) := H.lt
  have HCL : Hid (c < w.heap.size) := H.lt c (.inl (.inl rfl))
  have HS1 : Hid (w.heap.size + 2 ≤ ((w.alloc (.cells (rfC k) 43)).alloc (.cells (va 256 (iv .u8 fun _ => 0)) 52)).heap.size) := by
    show _ ≤ _
    simp
  clear H hk0
  go_enter Tryz.func32, Tryz.ntmps32
  go_wp2_with (first
    | (refine wpList_load_rowg (by rfl) 43 _ (by rfl) (w.heap.size) (by rfl) 43 (rfC k) (0, 0) _ (by exact r1) Tryz.underlying43 (by rfl) (slSizeRef.trans (by rw [rfC_size])) ?_; simp only [Act.put, sgPHCaGet2])
    | fail)
  generalize ((w.alloc (.cells (rfC k) 43)).alloc (.cells (va 256 (iv .u8 fun _ => 0)) 52)) = w1 at *
  refine (hN.out _).mono ?_
  rintro e w2 ⟨rfl, hb⟩
  have r2 : Blk w2.drew w.heap.size 43 (rfC k) := r1.below hb.drew r1.lt
  have k2 : Blk w2.drew (w.heap.size + 1) 52 (va 256 (iv .u8 fun _ => 0)) := k1.below hb.drew k1.lt
  have HC2 : Hid (CaAt w2.drew c m (some ⟨g, 0, none⟩) none (room : Int) h r bd cn L) := HC1.out.below hb.drew
  have HSZ : Hid (w.heap.size + 2 ≤ w2.drew.heap.size) := Nat.le_trans HS1.out hb.size
  have HT2 : Hid (Turns (cafo c m L) w w2.drew) := .of_below (hb1.trans (hb.drew.mono hb1.size))
  clear hb r1 k1 HC1 HS1 hb1 hN
  go_wp2_with fail
  go_cut [6, 7] (fun v6 v7 wx => v7 = .bool false ∧ ∃ x, v6 = .pointer (some ⟨x, 0, none⟩) ∧ w.heap.size + 2 ≤ x ∧ Blk wx x 52 (va 256 (iv .u8 (fun _ => 0))) ∧ Blk wx w.heap.size 43 (rfC k) ∧ Blk wx (w.heap.size + 1) 52 (va 256 (iv .u8 fun _ => 0)) ∧ CaAt wx c m (some ⟨g, 0, none⟩) none (room : Int) h r bd cn L ∧ Turns (cafo c m L) w wx)
  case first =>
    refine wp_region_plan (fun W => Blk W w.heap.size 43 (rfC k)) (.yield [0] 1 (.yield [] 2 (.yield [] 3 (.fork 4 8 (.force [5, 6, 7] 8 (.force [] 9 (.fin [10]))) (.force [] 4 (.yield [5] 6 (.yield [] 7 (.force [] 9 (.fin [10]))))))))) (by kernel_rfl) (by kernel_rfl) r2 (plan_yield ?_)
    generalize w2.drew = wd at *
    simp only [sgLHCaGet2]
    go_wp2_with fail
    first | (refine ⟨rfl, _, .pointer (some ⟨c, 0, none⟩), rfl, Or.inl ⟨by rfl, fun W hW => by go_simp⟩, plan_yield ?_⟩) | (refine ⟨rfl, .pointer (some ⟨c, 0, none⟩), Or.inl ⟨by rfl, fun W hW => by go_simp⟩, plan_yield ?_⟩)
    simp only [Act.put, sgPHCaGet2]
    simp only [sgLHCaGet2]
    go_wp2_with fail
    first | (refine ⟨rfl, _, .pointer (some ⟨c, 3, none⟩), rfl, Or.inl ⟨by rfl, fun W hW => by go_simp⟩, plan_yield ?_⟩) | (refine ⟨rfl, .pointer (some ⟨c, 3, none⟩), Or.inl ⟨by rfl, fun W hW => by go_simp⟩, plan_yield ?_⟩)
    simp only [Act.put, sgPHCaGet2]
    simp only [sgLHCaGet2]
    go_wp2_with fail
    first | (refine ⟨rfl, _, .agg (rfC k), rfl, kyields_load (by rfl) 43 _ (by rfl) w.heap.size 33 (rfF k.1 k.2) (by rfl) _ 43 (fun W hW => hW) Tryz.underlying43 rfl slSizeRef, plan_fork ?_ ?_⟩) | (refine ⟨rfl, .agg (rfC k), kyields_load (by rfl) 43 _ (by rfl) w.heap.size 33 (rfF k.1 k.2) (by rfl) _ 43 (fun W hW => hW) Tryz.underlying43 rfl slSizeRef, plan_fork ?_ ?_⟩)
    simp only [Act.put, sgPHCaGet2]
    · simp only [sgLHCaGet2]
      go_wp2_with fail
      refine (hU.out _ HC2.out).mono ?_
      rintro x w3 ⟨rfl, hc3, ht3⟩
      have HC3 : Hid (CaAt w3 c m (some ⟨g, 0, none⟩) none (room : Int) h r bd cn L) := hc3
      have HT3 : Hid (Turns (cafo c m L) w w3) := HT2.out.trans ht3 fun x hx => .inl hx
      have r3 : Blk w3 w.heap.size 43 (rfC k) := ht3.blk r2 (fun z => by have := HLT.out _ z; omega)
      have k3 : Blk w3 (w.heap.size + 1) 52 (va 256 (iv .u8 fun _ => 0)) := ht3.blk k2 (fun z => by have := HLT.out _ z; omega)
      have hs3 : wd.heap.size ≤ w3.heap.size := ht3.size
      clear hc3 ht3
      go_wp2_with fail
      refine ⟨rfl, r3, plan_force ?_⟩
      simp only [sgLHCaGet2]
      have q0 := Blk.new w3 52 (va 256 (iv .u8 fun _ => 0))
      go_wp2_with fail
      refine ⟨rfl, (r3.alloc _), plan_force ?_⟩
      simp only [sgLHCaGet2]
      refine wpList_store_row (by rfl) 52 _ _ (by rfl) (w3.heap.size) (va 256 (iv .u8 (fun _ => 0))) (by rfl) (by rfl) 52 _ q0 (sizeBk.trans (by rw [va_size])) (by simp only [va_size]) (iv_one _ _ _) ?_
      simp only [Act.put, sgPHCaGet2]
      go_wp2_with fail
      refine ⟨rfl, ((r3.alloc _).other _ (Nat.ne_of_lt r3.lt)), plan_fin ?_⟩
      simp only [sgLHCaGet2]
      go_wp2_with fail
      refine ⟨rfl, ?_⟩
      go_wp2_with fail
      go_meet
      have hsz := HSZ.out
      exact ⟨rfl, w3.heap.size, rfl, by omega, q0.set _, (r3.alloc _).other _ (Nat.ne_of_lt r3.lt), (k3.alloc _).other _ (Nat.ne_of_lt k3.lt), (HC3.out.below (below_new1 _ _)).setRow (fun z => by have := HC3.out.lt _ z; omega) _, (HT3.out.alloc _).laid (by omega) _⟩
    · simp only [sgLHCaGet2]
      have q0 := Blk.new wd 52 (va 256 (iv .u8 fun _ => 0))
      go_wp2_with fail
      refine ⟨rfl, (r2.alloc _), plan_force ?_⟩
      simp only [sgLHCaGet2]
      go_wp2_with fail
      refine (hU.out _ (HC2.out.below (below_new1 _ _))).mono ?_
      rintro x w3 ⟨rfl, hc3, ht3⟩
      have HC3 : Hid (CaAt w3 c m (some ⟨g, 0, none⟩) none (room : Int) h r bd cn L) := hc3
      have HT3 : Hid (Turns (cafo c m L) w w3) := (HT2.out.alloc _).trans ht3 fun x hx => .inl hx
      have r3 : Blk w3 w.heap.size 43 (rfC k) := ht3.blk (r2.alloc _) (fun z => by have := HLT.out _ z; omega)
      have k3 : Blk w3 (w.heap.size + 1) 52 (va 256 (iv .u8 fun _ => 0)) := ht3.blk (k2.alloc _) (fun z => by have := HLT.out _ z; omega)
      have q3 : Blk w3 wd.heap.size 52 (va 256 (iv .u8 fun _ => 0)) := ht3.blk q0 (fun z => by have := HLT.out _ z; have := HSZ.out; omega)
      have hnx : ¬ cafo c m L wd.heap.size := fun z => by
        have := HLT.out _ (HFO.out _ z)
        have := HSZ.out
        omega
      clear hc3 ht3
      go_wp2_with fail
      refine ⟨rfl, r3, plan_yield ?_⟩
      simp only [sgLHCaGet2]
      go_wp2_with fail
      first | (refine ⟨rfl, _, .agg (va 256 (iv .u8 (fun _ => 0))), rfl, Or.inl ⟨by rfl, fun W hW => by go_simp⟩, plan_yield ?_⟩) | (refine ⟨rfl, .agg (va 256 (iv .u8 (fun _ => 0))), Or.inl ⟨by rfl, fun W hW => by go_simp⟩, plan_yield ?_⟩)
      simp only [Act.put, sgPHCaGet2]
      simp only [sgLHCaGet2]
      go_wp2_with fail
      first | (refine ⟨rfl, _, .bool false, rfl, Or.inl ⟨by rfl, fun W hW => by go_simp⟩, plan_force ?_⟩) | (refine ⟨rfl, .bool false, Or.inl ⟨by rfl, fun W hW => by go_simp⟩, plan_force ?_⟩)
      simp only [Act.put, sgPHCaGet2]
      simp only [sgLHCaGet2]
      refine wpList_store_row (by rfl) 52 _ _ (by rfl) (wd.heap.size) (va 256 (iv .u8 (fun _ => 0))) (by rfl) (by rfl) 52 _ q3 (sizeBk.trans (by rw [va_size])) (by simp only [va_size]) (iv_one _ _ _) ?_
      simp only [Act.put, sgPHCaGet2]
      go_wp2_with fail
      refine ⟨rfl, (r3.other _ (by have := HSZ.out; omega)), plan_fin ?_⟩
      simp only [sgLHCaGet2]
      go_wp2_with fail
      refine ⟨rfl, ?_⟩
      go_wp2_with fail
      go_meet
      have hsz := HSZ.out
      exact ⟨rfl, wd.heap.size, rfl, by omega, q3.set _, r3.other _ (by omega), k3.other _ (by omega), HC3.out.setRow hnx _, HT3.out.laid (by omega) _⟩
  case rest =>
    obtain ⟨rfl, x, rfl, hx, q3, r3, k3, hc3, ht3⟩ := hcut
    clear r2 k2 HC2 HSZ HT2 hU
    rename World => wx
    have hcl := HCL.out
    have hdx : DiskQ wx B g N F kk lg q := HCDw.out.d.kept fun z hz => ht3.block z (HCDw.out.d.foots z hz).2 fun u => HCDw.out.ap z u hz
    have HDX : Hid (DiskQ wx B g N F kk lg q) := hdx
    have HCX : Hid (CaAt wx c m (some ⟨g, 0, none⟩) none (room : Int) h r bd cn L) := hc3
    have HTX : Hid (Turns (cafo c m L) w wx) := ht3
    have HBX : Hid (B ≤ wx.heap.size) := Nat.le_trans HBw.out ht3.size
    have HSX : Hid (w.heap.size ≤ wx.heap.size) := ht3.size
    have HKX : Hid (w.heap.size + 1 < wx.heap.size) := k3.lt
    clear q3 hdx hc3 ht3
    go_wp2_with (first
      | (refine wpList_load_rowg (by rfl) 43 _ (by rfl) (w.heap.size) (by rfl) 43 (rfC k) (0, 0) _ (by exact r3) Tryz.underlying43 (by rfl) (slSizeRef.trans (by rw [rfC_size])) ?_; simp only [Act.put, sgPHCaGet2])
      | fail)
    refine (hRD.out wx HBX.out HCX.out HDX.out).mono ?_
    rintro y w4 ⟨rfl, hb4⟩
    have k4 := k3.below hb4 k3.lt
    have HC4 : Hid (CaAt w4 c m (some ⟨g, 0, none⟩) none (room : Int) h r bd cn L) := HCX.out.below hb4
    have HD4 : Hid (DiskQ w4 B g N F kk lg q) := HDX.out.below hb4
    have HT4 : Hid (Turns (cdfo g N q c m L) w w4) := (HTX.out.mono fun z hz => .inr hz).trans (Turns.of_below (S := cdfo g N q c m L) hb4) fun z hz => .inl hz
    have HQ4 : Hid (∀ z, foot g N q z → foot g N q z ∨ wx.heap.size ≤ z) := fun z hz => .inl hz
    clear hb4 k3 r3
    have HS4 : Hid (w.heap.size + 1 < w4.heap.size) := k4.lt
    have q0 := Blk.new w4 52 (va 256 (iv .u8 fun _ => 0))
    have y5 := q0.set (va 256 (iv .u8 fun _ => 0))
    have hb5 : Below w4.heap.size w4 ((w4.alloc (.cells (va 256 (iv .u8 fun _ => 0)) 52)).setRow w4.heap.size (va 256 (iv .u8 fun _ => 0))) := below_setRow (below_new1 _ _) (Nat.le_refl _) _
    have k5 := k4.below hb5 k4.lt
    have HC5 : Hid (CaAt ((w4.alloc (.cells (va 256 (iv .u8 fun _ => 0)) 52)).setRow w4.heap.size (va 256 (iv .u8 fun _ => 0))) c m (some ⟨g, 0, none⟩) none (room : Int) h r bd cn L) := HC4.out.below hb5
    have HD5 : Hid (DiskQ ((w4.alloc (.cells (va 256 (iv .u8 fun _ => 0)) 52)).setRow w4.heap.size (va 256 (iv .u8 fun _ => 0))) B g N F kk lg q) := HD4.out.below hb5
    have HT5 : Hid (Turns (cdfo g N q c m L) w ((w4.alloc (.cells (va 256 (iv .u8 fun _ => 0)) 52)).setRow w4.heap.size (va 256 (iv .u8 fun _ => 0)))) := HT4.out.trans (Turns.of_below (S := cdfo g N q c m L) hb5) fun z hz => .inl hz
    clear hb5 k4 hcl HCX HDX HTX
    go_wp2_with (first
      | (refine wpList_store_row (by rfl) 52 _ _ (by rfl) (w4.heap.size) (va 256 (iv .u8 (fun _ => 0))) (by rfl) (by rfl) 52 _ q0 (sizeBk.trans (by rw [va_size])) (by simp only [va_size]) (iv_one _ _ _) ?_; simp only [Act.put, sgPHCaGet2])
      | (refine wpList_load_row (by rfl) 52 _ (by rfl) (w4.heap.size) (by rfl) 52 (va 256 (iv .u8 (fun _ => 0))) (0, 0) _ y5 Tryz.underlying52 (by rfl) (sizeBk.trans (by rw [va_size])) ?_; simp only [Act.put, sgPHCaGet2])
      | (refine wpList_store_row (by rfl) 52 _ _ (by rfl) (w.heap.size + 1) (va 256 (iv .u8 (fun _ => 0))) (by rfl) (by rfl) 52 _ k5 (sizeBk.trans (by rw [va_size])) (by simp only [va_size]) (iv_one _ _ _) ?_; simp only [Act.put, sgPHCaGet2])
      | fail)
    try simp only [Exit.inBlock, Exit.then]
    refine bodyPost_ret (results_row2 Tryz.results32 _ _ (w.heap.size + 1) 52 (va 256 (iv .u8 (fun _ => 0))) (0, 0) _ rfl ((k5.set _)) Tryz.underlying52 rfl (sizeBk.trans (by rw [va_size]))) rfl ?_
    have hnn : ¬ cdfo g N q c m L (w.heap.size + 1) := fun z => by
      have := (HCDw.out.lt _ z).2
      omega
    exact ⟨rfl, ⟨HD5.out.kept fun z hz => setRow_other _ _ z _ fun e => hnn (e ▸ .inl hz), HC5.out.setRow (fun z => hnn (.inr z)) _, HCDw.out.ap, HCDw.out.lo⟩, HT5.out.laid (by omega) _⟩
set_option maxRecDepth 100000 in
set_option maxHeartbeats 4000000 in
theorem get_rbad {cv : Value} (hk1 : k.1 ≠ 0) (hkN : k.1 < N) (hN : N ≤ 8192) (hkk : kk < 549755813888) (hlg : lg < 137438953472) (hq : QuietC cv false q kk) (f : Nat → Nat) (hf : f = fun j => F (k.1 * 256 + j)) (hdg : ¬ dgB f = k.2) (hr : 0 ≤ r ∧ r < 4611686018427387904) (hbd : 0 ≤ bd ∧ bd < 4611686018427387904) (hn : ∀ e ∈ L, e.k ≠ k) (hk0 : k ≠ rf0) (w : World) (hB : B ≤ w.heap.size) (HCD : CD w B g N F kk lg q c m room h r bd cn L) : Calls Tryz.prog 32 #[.pointer (some ⟨c, 0, none⟩), .agg (rfC k)] w fun x w' => x = .returned (.tuple #[.agg (va 256 (iv .u8 fun _ => 0)), .int .i64 2]) ∧ ∃ q', CD w' B g N F (kk + 1) (lg + 1) q' c m room h (r + 1) (bd + 1) cn L ∧ QuietC cv false q' (kk + 1) ∧ Turns (cdfo g N q c m L) w w' ∧ ∀ z, cdfo g N q' c m L z → cdfo g N q c m L z ∨ w.heap.size ≤ z := by
  have H := HCD.ca
  have HCDw : Hid (CD w B g N F kk lg q c m room h r bd cn L) := HCD
  have HBw : Hid (B ≤ w.heap.size) := hB
  have HNC : Hid (¬ foot g N q c) := HCD.ap c (.inl (.inl rfl))
  have hRD : Hid (∀ w : World, B ≤ w.heap.size → CaAt w c m (some ⟨g, 0, none⟩) none (room : Int) h r bd cn L → DiskQ w B g N F kk lg q → Calls Tryz.prog 54 #[.pointer (some ⟨c, 0, none⟩), .agg (rfC k)] w fun x w' => x = .returned (.tuple #[.agg (va 256 (iv .u8 fun _ => 0)), .int .i64 2]) ∧ ∃ q', DiskQ w' B g N F (kk + 1) (lg + 1) q' ∧ QuietC cv false q' (kk + 1) ∧ Blk w' c 133 (caC (some ⟨g, 0, none⟩) none (room : Int) m (headOf L) (lastOf L) h (r + 1) (bd + 1) cn) ∧ Turns (fun z => foot g N q z ∨ z = c) w w' ∧ ∀ z, foot g N q' z → foot g N q z ∨ w.heap.size ≤ z) := fun w h0 h1 h2 => read_bad k hk1 hkN hN hkk hlg hq f hf hdg hr hbd w h0 h1.ch.blk h2 HNC.out
  clear hk1 hkN hN hkk hlg hq hf hdg hr hbd
  have hU : Hid (∀ w : World, CaAt w c m (some ⟨g, 0, none⟩) none (room : Int) h r bd cn L → Calls Tryz.prog 53 #[.pointer (some ⟨c, 3, none⟩), .agg (rfC k)] w fun x w' => x = .returned (.tuple #[.agg (va 256 (iv .u8 fun _ => 0)), .bool false]) ∧ CaAt w' c m (some ⟨g, 0, none⟩) none (room : Int) h r bd cn L ∧ Turns (cafo c m L) w w') := fun w h1 => (use_no hn w h1).mono fun x w' ⟨a, b⟩ => ⟨a, h1.below b, .of_below b⟩
  have HFO : Hid (∀ z, cafo c m L z → cafo c m L z) := fun z hz => hz
  clear hn HCD hB
  have hz := zero_bk
  have hN : Hid (∀ w, Calls Tryz.prog 50 #[.agg (rfC k)] w fun e w' => e = .returned (.bool false) ∧ Below w.heap.size w w') := fun w => by
    have := none_any k w
    rw [decide_eq_false hk0] at this
    exact this
  have hb1 : Below w.heap.size w ((w.alloc (.cells (rfC k) 43)).alloc (.cells (va 256 (iv .u8 fun _ => 0)) 52)) := below_new2 _ _ _
  have r1 : Blk ((w.alloc (.cells (rfC k) 43)).alloc (.cells (va 256 (iv .u8 fun _ => 0)) 52)) w.heap.size 43 (rfC k) := (Blk.new _ _ _).alloc _
  have k1 : Blk ((w.alloc (.cells (rfC k) 43)).alloc (.cells (va 256 (iv .u8 fun _ => 0)) 52)) (w.heap.size + 1) 52 (va 256 (iv .u8 fun _ => 0)) := Blk.new1 _ _ _ _
  have HC1 : Hid (CaAt ((w.alloc (.cells (rfC k) 43)).alloc (.cells (va 256 (iv .u8 fun _ => 0)) 52)) c m (some ⟨g, 0, none⟩) none (room : Int) h r bd cn L) := H.below hb1
  have HLT : Hid (∀ x, cafo c m L x → x < w.heap.size) := H.lt
  have HCL : Hid (c < w.heap.size) := H.lt c (.inl (.inl rfl))
  have HS1 : Hid (w.heap.size + 2 ≤ ((w.alloc (.cells (rfC k) 43)).alloc (.cells (va 256 (iv .u8 fun _ => 0)) 52)).heap.size) := by
    show _ ≤ _
    simp
  clear H hk0
  go_enter Tryz.func32, Tryz.ntmps32
  go_wp2_with (first
    | (refine wpList_load_rowg (by rfl) 43 _ (by rfl) (w.heap.size) (by rfl) 43 (rfC k) (0, 0) _ (by exact r1) Tryz.underlying43 (by rfl) (slSizeRef.trans (by rw [rfC_size])) ?_; simp only [Act.put, sgPHCaGet2])
    | fail)
  generalize ((w.alloc (.cells (rfC k) 43)).alloc (.cells (va 256 (iv .u8 fun _ => 0)) 52)) = w1 at *
  refine (hN.out _).mono ?_
  rintro e w2 ⟨rfl, hb⟩
  have r2 : Blk w2.drew w.heap.size 43 (rfC k) := r1.below hb.drew r1.lt
  have k2 : Blk w2.drew (w.heap.size + 1) 52 (va 256 (iv .u8 fun _ => 0)) := k1.below hb.drew k1.lt
  have HC2 : Hid (CaAt w2.drew c m (some ⟨g, 0, none⟩) none (room : Int) h r bd cn L) := HC1.out.below hb.drew
  have HSZ : Hid (w.heap.size + 2 ≤ w2.drew.heap.size) := Nat.le_trans HS1.out hb.size
  have HT2 : Hid (Turns (cafo c m L) w w2.drew) := .of_below (hb1.trans (hb.drew.mono hb1.size))
  clear hb r1 k1 HC1 HS1 hb1 hN
  go_wp2_with fail
  go_cut [6, 7] (fun v6 v7 wx => v7 = .bool false ∧ ∃ x, v6 = .pointer (some ⟨x, 0, none⟩) ∧ w.heap.size + 2 ≤ x ∧ Blk wx x 52 (va 256 (iv .u8 (fun _ => 0))) ∧ Blk wx w.heap.size 43 (rfC k) ∧ Blk wx (w.heap.size + 1) 52 (va 256 (iv .u8 fun _ => 0)) ∧ CaAt wx c m (some ⟨g, 0, none⟩) none (room : Int) h r bd cn L ∧ Turns (cafo c m L) w wx)
  case first =>
    refine wp_region_plan (fun W => Blk W w.heap.size 43 (rfC k)) (.yield [0] 1 (.yield [] 2 (.yield [] 3 (.fork 4 8 (.force [5, 6, 7] 8 (.force [] 9 (.fin [10]))) (.force [] 4 (.yield [5] 6 (.yield [] 7 (.force [] 9 (.fin [10]))))))))) (by kernel_rfl) (by kernel_rfl) r2 (plan_yield ?_)
    generalize w2.drew = wd at *
    simp only [sgLHCaGet2]
    go_wp2_with fail
    first | (refine ⟨rfl, _, .pointer (some ⟨c, 0, none⟩), rfl, Or.inl ⟨by rfl, fun W hW => by go_simp⟩, plan_yield ?_⟩) | (refine ⟨rfl, .pointer (some ⟨c, 0, none⟩), Or.inl ⟨by rfl, fun W hW => by go_simp⟩, plan_yield ?_⟩)
    simp only [Act.put, sgPHCaGet2]
    simp only [sgLHCaGet2]
    go_wp2_with fail
    first | (refine ⟨rfl, _, .pointer (some ⟨c, 3, none⟩), rfl, Or.inl ⟨by rfl, fun W hW => by go_simp⟩, plan_yield ?_⟩) | (refine ⟨rfl, .pointer (some ⟨c, 3, none⟩), Or.inl ⟨by rfl, fun W hW => by go_simp⟩, plan_yield ?_⟩)
    simp only [Act.put, sgPHCaGet2]
    simp only [sgLHCaGet2]
    go_wp2_with fail
    first | (refine ⟨rfl, _, .agg (rfC k), rfl, kyields_load (by rfl) 43 _ (by rfl) w.heap.size 33 (rfF k.1 k.2) (by rfl) _ 43 (fun W hW => hW) Tryz.underlying43 rfl slSizeRef, plan_fork ?_ ?_⟩) | (refine ⟨rfl, .agg (rfC k), kyields_load (by rfl) 43 _ (by rfl) w.heap.size 33 (rfF k.1 k.2) (by rfl) _ 43 (fun W hW => hW) Tryz.underlying43 rfl slSizeRef, plan_fork ?_ ?_⟩)
    simp only [Act.put, sgPHCaGet2]
    · simp only [sgLHCaGet2]
      go_wp2_with fail
      refine (hU.out _ HC2.out).mono ?_
      rintro x w3 ⟨rfl, hc3, ht3⟩
      have HC3 : Hid (CaAt w3 c m (some ⟨g, 0, none⟩) none (room : Int) h r bd cn L) := hc3
      have HT3 : Hid (Turns (cafo c m L) w w3) := HT2.out.trans ht3 fun x hx => .inl hx
      have r3 : Blk w3 w.heap.size 43 (rfC k) := ht3.blk r2 (fun z => by have := HLT.out _ z; omega)
      have k3 : Blk w3 (w.heap.size + 1) 52 (va 256 (iv .u8 fun _ => 0)) := ht3.blk k2 (fun z => by have := HLT.out _ z; omega)
      have hs3 : wd.heap.size ≤ w3.heap.size := ht3.size
      clear hc3 ht3
      go_wp2_with fail
      refine ⟨rfl, r3, plan_force ?_⟩
      simp only [sgLHCaGet2]
      have q0 := Blk.new w3 52 (va 256 (iv .u8 fun _ => 0))
      go_wp2_with fail
      refine ⟨rfl, (r3.alloc _), plan_force ?_⟩
      simp only [sgLHCaGet2]
      refine wpList_store_row (by rfl) 52 _ _ (by rfl) (w3.heap.size) (va 256 (iv .u8 (fun _ => 0))) (by rfl) (by rfl) 52 _ q0 (sizeBk.trans (by rw [va_size])) (by simp only [va_size]) (iv_one _ _ _) ?_
      simp only [Act.put, sgPHCaGet2]
      go_wp2_with fail
      refine ⟨rfl, ((r3.alloc _).other _ (Nat.ne_of_lt r3.lt)), plan_fin ?_⟩
      simp only [sgLHCaGet2]
      go_wp2_with fail
      refine ⟨rfl, ?_⟩
      go_wp2_with fail
      go_meet
      have hsz := HSZ.out
      exact ⟨rfl, w3.heap.size, rfl, by omega, q0.set _, (r3.alloc _).other _ (Nat.ne_of_lt r3.lt), (k3.alloc _).other _ (Nat.ne_of_lt k3.lt), (HC3.out.below (below_new1 _ _)).setRow (fun z => by have := HC3.out.lt _ z; omega) _, (HT3.out.alloc _).laid (by omega) _⟩
    · simp only [sgLHCaGet2]
      have q0 := Blk.new wd 52 (va 256 (iv .u8 fun _ => 0))
      go_wp2_with fail
      refine ⟨rfl, (r2.alloc _), plan_force ?_⟩
      simp only [sgLHCaGet2]
      go_wp2_with fail
      refine (hU.out _ (HC2.out.below (below_new1 _ _))).mono ?_
      rintro x w3 ⟨rfl, hc3, ht3⟩
      have HC3 : Hid (CaAt w3 c m (some ⟨g, 0, none⟩) none (room : Int) h r bd cn L) := hc3
      have HT3 : Hid (Turns (cafo c m L) w w3) := (HT2.out.alloc _).trans ht3 fun x hx => .inl hx
      have r3 : Blk w3 w.heap.size 43 (rfC k) := ht3.blk (r2.alloc _) (fun z => by have := HLT.out _ z; omega)
      have k3 : Blk w3 (w.heap.size + 1) 52 (va 256 (iv .u8 fun _ => 0)) := ht3.blk (k2.alloc _) (fun z => by have := HLT.out _ z; omega)
      have q3 : Blk w3 wd.heap.size 52 (va 256 (iv .u8 fun _ => 0)) := ht3.blk q0 (fun z => by have := HLT.out _ z; have := HSZ.out; omega)
      have hnx : ¬ cafo c m L wd.heap.size := fun z => by
        have := HLT.out _ (HFO.out _ z)
        have := HSZ.out
        omega
      clear hc3 ht3
      go_wp2_with fail
      refine ⟨rfl, r3, plan_yield ?_⟩
      simp only [sgLHCaGet2]
      go_wp2_with fail
      first | (refine ⟨rfl, _, .agg (va 256 (iv .u8 (fun _ => 0))), rfl, Or.inl ⟨by rfl, fun W hW => by go_simp⟩, plan_yield ?_⟩) | (refine ⟨rfl, .agg (va 256 (iv .u8 (fun _ => 0))), Or.inl ⟨by rfl, fun W hW => by go_simp⟩, plan_yield ?_⟩)
      simp only [Act.put, sgPHCaGet2]
      simp only [sgLHCaGet2]
      go_wp2_with fail
      first | (refine ⟨rfl, _, .bool false, rfl, Or.inl ⟨by rfl, fun W hW => by go_simp⟩, plan_force ?_⟩) | (refine ⟨rfl, .bool false, Or.inl ⟨by rfl, fun W hW => by go_simp⟩, plan_force ?_⟩)
      simp only [Act.put, sgPHCaGet2]
      simp only [sgLHCaGet2]
      refine wpList_store_row (by rfl) 52 _ _ (by rfl) (wd.heap.size) (va 256 (iv .u8 (fun _ => 0))) (by rfl) (by rfl) 52 _ q3 (sizeBk.trans (by rw [va_size])) (by simp only [va_size]) (iv_one _ _ _) ?_
      simp only [Act.put, sgPHCaGet2]
      go_wp2_with fail
      refine ⟨rfl, (r3.other _ (by have := HSZ.out; omega)), plan_fin ?_⟩
      simp only [sgLHCaGet2]
      go_wp2_with fail
      refine ⟨rfl, ?_⟩
      go_wp2_with fail
      go_meet
      have hsz := HSZ.out
      exact ⟨rfl, wd.heap.size, rfl, by omega, q3.set _, r3.other _ (by omega), k3.other _ (by omega), HC3.out.setRow hnx _, HT3.out.laid (by omega) _⟩
  case rest =>
    obtain ⟨rfl, x, rfl, hx, q3, r3, k3, hc3, ht3⟩ := hcut
    clear r2 k2 HC2 HSZ HT2 hU
    rename World => wx
    have hcl := HCL.out
    have hdx : DiskQ wx B g N F kk lg q := HCDw.out.d.kept fun z hz => ht3.block z (HCDw.out.d.foots z hz).2 fun u => HCDw.out.ap z u hz
    have HDX : Hid (DiskQ wx B g N F kk lg q) := hdx
    have HCX : Hid (CaAt wx c m (some ⟨g, 0, none⟩) none (room : Int) h r bd cn L) := hc3
    have HTX : Hid (Turns (cafo c m L) w wx) := ht3
    have HBX : Hid (B ≤ wx.heap.size) := Nat.le_trans HBw.out ht3.size
    have HSX : Hid (w.heap.size ≤ wx.heap.size) := ht3.size
    have HKX : Hid (w.heap.size + 1 < wx.heap.size) := k3.lt
    clear q3 hdx hc3 ht3
    go_wp2_with (first
      | (refine wpList_load_rowg (by rfl) 43 _ (by rfl) (w.heap.size) (by rfl) 43 (rfC k) (0, 0) _ (by exact r3) Tryz.underlying43 (by rfl) (slSizeRef.trans (by rw [rfC_size])) ?_; simp only [Act.put, sgPHCaGet2])
      | fail)
    refine (hRD.out wx HBX.out HCX.out HDX.out).mono ?_
    rintro y w4 ⟨rfl, q4, hd4, hq4, hg4, ht4, hf4⟩
    have hlow : ∀ z, w.heap.size ≤ z → ¬ (foot g N q z ∨ z = c) := fun z hz u => by
      rcases u with u | u
      · have := (HCDw.out.d.foots z u).2
        omega
      · omega
    have k4 : Blk w4 (w.heap.size + 1) 52 (va 256 (iv .u8 fun _ => 0)) := ht4.blk k3 (hlow _ (by omega))
    have r4 : Blk w4 w.heap.size 43 (rfC k) := ht4.blk r3 (hlow _ (by omega))
    have HC4 : Hid (CaAt w4 c m (some ⟨g, 0, none⟩) none (room : Int) h (r + 1) (bd + 1) cn L) := HCX.out.count hg4 fun z hz hne => ht4.block z (HCX.out.lt z hz) fun u => by
      rcases u with u | u
      · exact HCDw.out.ap z hz u
      · exact hne u
    have HD4 : Hid (DiskQ w4 B g N F (kk + 1) (lg + 1) q4) := hd4
    have HQC4 : Hid (QuietC cv false q4 (kk + 1)) := hq4
    have HT4 : Hid (Turns (cdfo g N q c m L) w w4) := (HTX.out.mono fun z hz => .inr hz).trans ht4 fun z hz => .inl (by
      rcases hz with u | u
      · exact .inl u
      · exact .inr (.inl (.inl u)))
    have HQ4 : Hid (∀ z, foot g N q4 z → foot g N q z ∨ wx.heap.size ≤ z) := hf4
    clear hd4 hq4 hg4 ht4 hf4 hlow k3 r3
    have HS4 : Hid (w.heap.size + 1 < w4.heap.size) := k4.lt
    have q0 := Blk.new w4 52 (va 256 (iv .u8 fun _ => 0))
    have y5 := q0.set (va 256 (iv .u8 fun _ => 0))
    have hb5 : Below w4.heap.size w4 ((w4.alloc (.cells (va 256 (iv .u8 fun _ => 0)) 52)).setRow w4.heap.size (va 256 (iv .u8 fun _ => 0))) := below_setRow (below_new1 _ _) (Nat.le_refl _) _
    have k5 := k4.below hb5 k4.lt
    have r5 := r4.below hb5 r4.lt
    have HC5 : Hid (CaAt ((w4.alloc (.cells (va 256 (iv .u8 fun _ => 0)) 52)).setRow w4.heap.size (va 256 (iv .u8 fun _ => 0))) c m (some ⟨g, 0, none⟩) none (room : Int) h (r + 1) (bd + 1) cn L) := HC4.out.below hb5
    have HD5 : Hid (DiskQ ((w4.alloc (.cells (va 256 (iv .u8 fun _ => 0)) 52)).setRow w4.heap.size (va 256 (iv .u8 fun _ => 0))) B g N F (kk + 1) (lg + 1) q4) := HD4.out.below hb5
    have HT5 : Hid (Turns (cdfo g N q c m L) w ((w4.alloc (.cells (va 256 (iv .u8 fun _ => 0)) 52)).setRow w4.heap.size (va 256 (iv .u8 fun _ => 0)))) := HT4.out.trans (Turns.of_below (S := cdfo g N q c m L) hb5) fun z hz => .inl hz
    clear hb5 k4 hcl HCX HDX HTX
    go_wp2_with (first
      | (refine wpList_store_row (by rfl) 52 _ _ (by rfl) (w4.heap.size) (va 256 (iv .u8 (fun _ => 0))) (by rfl) (by rfl) 52 _ q0 (sizeBk.trans (by rw [va_size])) (by simp only [va_size]) (iv_one _ _ _) ?_; simp only [Act.put, sgPHCaGet2])
      | (refine wpList_load_row (by rfl) 52 _ (by rfl) (w4.heap.size) (by rfl) 52 (va 256 (iv .u8 (fun _ => 0))) (0, 0) _ y5 Tryz.underlying52 (by rfl) (sizeBk.trans (by rw [va_size])) ?_; simp only [Act.put, sgPHCaGet2])
      | (refine wpList_store_row (by rfl) 52 _ _ (by rfl) (w.heap.size + 1) (va 256 (iv .u8 (fun _ => 0))) (by rfl) (by rfl) 52 _ k5 (sizeBk.trans (by rw [va_size])) (by simp only [va_size]) (iv_one _ _ _) ?_; simp only [Act.put, sgPHCaGet2])
      | fail)
    try simp only [Exit.inBlock, Exit.then]
    refine bodyPost_ret (results_row2 Tryz.results32 _ _ (w.heap.size + 1) 52 (va 256 (iv .u8 (fun _ => 0))) (0, 0) _ rfl ((k5.set _)) Tryz.underlying52 rfl (sizeBk.trans (by rw [va_size]))) rfl ?_
    have hsx := HSX.out
    have hnn : ¬ cdfo g N q c m L (w.heap.size + 1) := fun z => by
      have := (HCDw.out.lt _ z).2
      omega
    have hfn : ∀ z, foot g N q4 z → z ≠ w.heap.size + 1 := fun z hz e => by
      rcases HQ4.out z hz with v | v
      · exact hnn (e ▸ .inl v)
      · have := HKX.out
        omega
    refine ⟨rfl, q4, ⟨HD5.out.kept fun z hz => setRow_other _ _ z _ (hfn z hz), HC5.out.setRow (fun z => hnn (.inr z)) _, fun z hz u => ?_, HCDw.out.lo⟩, HQC4.out, HT5.out.laid (by omega) _, fun z hz => ?_⟩
    · rcases HQ4.out z u with v | v
      · exact HCDw.out.ap z hz v
      · have := HLT.out _ hz
        omega
    · rcases hz with hz | hz
      · rcases HQ4.out z hz with v | v
        · exact .inl (.inl v)
        · exact .inr (by omega)
      · exact .inl (.inr hz)
set_option maxRecDepth 100000 in
set_option maxHeartbeats 4000000 in
theorem get_rgood {cv : Value} (hk1 : k.1 ≠ 0) (hkN : k.1 < N) (hN : N ≤ 8192) (hkk : kk < 549755813888) (hlg : lg < 137438953472) (hq : QuietC cv false q kk) (f : Nat → Nat) (hf : f = fun j => F (k.1 * 256 + j)) (hdg : dgB f = k.2) (hr : 0 ≤ r ∧ r < 4611686018427387904) (hbd : 0 ≤ bd ∧ bd < 4611686018427387904) (hroom : room ≤ 4096) (hp : PutL L k L1) (hn : ∀ e ∈ L, e.k ≠ k) (hk0 : k ≠ rf0) (w : World) (hB : B ≤ w.heap.size) (HCD : CD w B g N F kk lg q c m room h r bd cn L) : Calls Tryz.prog 32 #[.pointer (some ⟨c, 0, none⟩), .agg (rfC k)] w fun x w' => x = .returned (.tuple #[.agg (va 256 (iv .u8 f)), .int .i64 0]) ∧ ∃ q' b, w.heap.size ≤ b ∧ CD w' B g N F (kk + 1) (lg + 1) q' c m room h (r + 1) bd cn ((L1 ++ [(⟨k, b, f⟩ : En)]).drop ((L1 ++ [(⟨k, b, f⟩ : En)]).length - room)) ∧ QuietC cv false q' (kk + 1) ∧ Turns (cdfo g N q c m L) w w' ∧ ∀ z, cdfo g N q' c m ((L1 ++ [(⟨k, b, f⟩ : En)]).drop ((L1 ++ [(⟨k, b, f⟩ : En)]).length - room)) z → cdfo g N q c m L z ∨ w.heap.size ≤ z := by
  have H := HCD.ca
  have HCDw : Hid (CD w B g N F kk lg q c m room h r bd cn L) := HCD
  have HBw : Hid (B ≤ w.heap.size) := hB
  have HNC : Hid (¬ foot g N q c) := HCD.ap c (.inl (.inl rfl))
  have hRD : Hid (∀ w : World, B ≤ w.heap.size → CaAt w c m (some ⟨g, 0, none⟩) none (room : Int) h r bd cn L → DiskQ w B g N F kk lg q → Calls Tryz.prog 54 #[.pointer (some ⟨c, 0, none⟩), .agg (rfC k)] w fun x w' => x = .returned (.tuple #[.agg (va 256 (iv .u8 f)), .int .i64 0]) ∧ ∃ q', DiskQ w' B g N F (kk + 1) (lg + 1) q' ∧ QuietC cv false q' (kk + 1) ∧ Blk w' c 133 (caC (some ⟨g, 0, none⟩) none (room : Int) m (headOf L) (lastOf L) h (r + 1) bd cn) ∧ Turns (fun z => foot g N q z ∨ z = c) w w' ∧ ∀ z, foot g N q' z → foot g N q z ∨ w.heap.size ≤ z) := fun w h0 h1 h2 => read_good k hk1 hkN hN hkk hlg hq f hf hdg hr hbd w h0 h1.ch.blk h2 HNC.out
  have HPL : Hid (PutL L k L1) := hp
  have hKP : Hid (∀ w : World, CaAt w c m (some ⟨g, 0, none⟩) none (room : Int) h (r + 1) bd cn L → Calls Tryz.prog 55 #[.pointer (some ⟨c, 0, none⟩), .agg (rfC k), .agg (va 256 (iv .u8 f))] w fun x w' => x = .returned (.tuple #[]) ∧ ∃ b, w.heap.size ≤ b ∧ CaAt w' c m (some ⟨g, 0, none⟩) none (room : Int) h (r + 1) bd cn ((L1 ++ [(⟨k, b, f⟩ : En)]).drop ((L1 ++ [(⟨k, b, f⟩ : En)]).length - room)) ∧ Turns (cafo c m L) w w') := fun w h1 => keep_any hroom hp f w h1
  clear hroom hp
  clear hk1 hkN hN hkk hlg hq hf hdg hr hbd
  have hU : Hid (∀ w : World, CaAt w c m (some ⟨g, 0, none⟩) none (room : Int) h r bd cn L → Calls Tryz.prog 53 #[.pointer (some ⟨c, 3, none⟩), .agg (rfC k)] w fun x w' => x = .returned (.tuple #[.agg (va 256 (iv .u8 fun _ => 0)), .bool false]) ∧ CaAt w' c m (some ⟨g, 0, none⟩) none (room : Int) h r bd cn L ∧ Turns (cafo c m L) w w') := fun w h1 => (use_no hn w h1).mono fun x w' ⟨a, b⟩ => ⟨a, h1.below b, .of_below b⟩
  have HFO : Hid (∀ z, cafo c m L z → cafo c m L z) := fun z hz => hz
  clear hn HCD hB
  have hz := zero_bk
  have hN : Hid (∀ w, Calls Tryz.prog 50 #[.agg (rfC k)] w fun e w' => e = .returned (.bool false) ∧ Below w.heap.size w w') := fun w => by
    have := none_any k w
    rw [decide_eq_false hk0] at this
    exact this
  have hb1 : Below w.heap.size w ((w.alloc (.cells (rfC k) 43)).alloc (.cells (va 256 (iv .u8 fun _ => 0)) 52)) := below_new2 _ _ _
  have r1 : Blk ((w.alloc (.cells (rfC k) 43)).alloc (.cells (va 256 (iv .u8 fun _ => 0)) 52)) w.heap.size 43 (rfC k) := (Blk.new _ _ _).alloc _
  have k1 : Blk ((w.alloc (.cells (rfC k) 43)).alloc (.cells (va 256 (iv .u8 fun _ => 0)) 52)) (w.heap.size + 1) 52 (va 256 (iv .u8 fun _ => 0)) := Blk.new1 _ _ _ _
  have HC1 : Hid (CaAt ((w.alloc (.cells (rfC k) 43)).alloc (.cells (va 256 (iv .u8 fun _ => 0)) 52)) c m (some ⟨g, 0, none⟩) none (room : Int) h r bd cn L) := H.below hb1
  have HLT : Hid (∀ x, cafo c m L x → x < w.heap.size) := H.lt
  have HCL : Hid (c < w.heap.size) := H.lt c (.inl (.inl rfl))
  have HS1 : Hid (w.heap.size + 2 ≤ ((w.alloc (.cells (rfC k) 43)).alloc (.cells (va 256 (iv .u8 fun _ => 0)) 52)).heap.size) := by
    show _ ≤ _
    simp
  clear H hk0
  go_enter Tryz.func32, Tryz.ntmps32
  go_wp2_with (first
    | (refine wpList_load_rowg (by rfl) 43 _ (by rfl) (w.heap.size) (by rfl) 43 (rfC k) (0, 0) _ (by exact r1) Tryz.underlying43 (by rfl) (slSizeRef.trans (by rw [rfC_size])) ?_; simp only [Act.put, sgPHCaGet2])
    | fail)
  generalize ((w.alloc (.cells (rfC k) 43)).alloc (.cells (va 256 (iv .u8 fun _ => 0)) 52)) = w1 at *
  refine (hN.out _).mono ?_
  rintro e w2 ⟨rfl, hb⟩
  have r2 : Blk w2.drew w.heap.size 43 (rfC k) := r1.below hb.drew r1.lt
  have k2 : Blk w2.drew (w.heap.size + 1) 52 (va 256 (iv .u8 fun _ => 0)) := k1.below hb.drew k1.lt
  have HC2 : Hid (CaAt w2.drew c m (some ⟨g, 0, none⟩) none (room : Int) h r bd cn L) := HC1.out.below hb.drew
  have HSZ : Hid (w.heap.size + 2 ≤ w2.drew.heap.size) := Nat.le_trans HS1.out hb.size
  have HT2 : Hid (Turns (cafo c m L) w w2.drew) := .of_below (hb1.trans (hb.drew.mono hb1.size))
  clear hb r1 k1 HC1 HS1 hb1 hN
  go_wp2_with fail
  go_cut [6, 7] (fun v6 v7 wx => v7 = .bool false ∧ ∃ x, v6 = .pointer (some ⟨x, 0, none⟩) ∧ w.heap.size + 2 ≤ x ∧ Blk wx x 52 (va 256 (iv .u8 (fun _ => 0))) ∧ Blk wx w.heap.size 43 (rfC k) ∧ Blk wx (w.heap.size + 1) 52 (va 256 (iv .u8 fun _ => 0)) ∧ CaAt wx c m (some ⟨g, 0, none⟩) none (room : Int) h r bd cn L ∧ Turns (cafo c m L) w wx)
  case first =>
    refine wp_region_plan (fun W => Blk W w.heap.size 43 (rfC k)) (.yield [0] 1 (.yield [] 2 (.yield [] 3 (.fork 4 8 (.force [5, 6, 7] 8 (.force [] 9 (.fin [10]))) (.force [] 4 (.yield [5] 6 (.yield [] 7 (.force [] 9 (.fin [10]))))))))) (by kernel_rfl) (by kernel_rfl) r2 (plan_yield ?_)
    generalize w2.drew = wd at *
    simp only [sgLHCaGet2]
    go_wp2_with fail
    first | (refine ⟨rfl, _, .pointer (some ⟨c, 0, none⟩), rfl, Or.inl ⟨by rfl, fun W hW => by go_simp⟩, plan_yield ?_⟩) | (refine ⟨rfl, .pointer (some ⟨c, 0, none⟩), Or.inl ⟨by rfl, fun W hW => by go_simp⟩, plan_yield ?_⟩)
    simp only [Act.put, sgPHCaGet2]
    simp only [sgLHCaGet2]
    go_wp2_with fail
    first | (refine ⟨rfl, _, .pointer (some ⟨c, 3, none⟩), rfl, Or.inl ⟨by rfl, fun W hW => by go_simp⟩, plan_yield ?_⟩) | (refine ⟨rfl, .pointer (some ⟨c, 3, none⟩), Or.inl ⟨by rfl, fun W hW => by go_simp⟩, plan_yield ?_⟩)
    simp only [Act.put, sgPHCaGet2]
    simp only [sgLHCaGet2]
    go_wp2_with fail
    first | (refine ⟨rfl, _, .agg (rfC k), rfl, kyields_load (by rfl) 43 _ (by rfl) w.heap.size 33 (rfF k.1 k.2) (by rfl) _ 43 (fun W hW => hW) Tryz.underlying43 rfl slSizeRef, plan_fork ?_ ?_⟩) | (refine ⟨rfl, .agg (rfC k), kyields_load (by rfl) 43 _ (by rfl) w.heap.size 33 (rfF k.1 k.2) (by rfl) _ 43 (fun W hW => hW) Tryz.underlying43 rfl slSizeRef, plan_fork ?_ ?_⟩)
    simp only [Act.put, sgPHCaGet2]
    · simp only [sgLHCaGet2]
      go_wp2_with fail
      refine (hU.out _ HC2.out).mono ?_
      rintro x w3 ⟨rfl, hc3, ht3⟩
      have HC3 : Hid (CaAt w3 c m (some ⟨g, 0, none⟩) none (room : Int) h r bd cn L) := hc3
      have HT3 : Hid (Turns (cafo c m L) w w3) := HT2.out.trans ht3 fun x hx => .inl hx
      have r3 : Blk w3 w.heap.size 43 (rfC k) := ht3.blk r2 (fun z => by have := HLT.out _ z; omega)
      have k3 : Blk w3 (w.heap.size + 1) 52 (va 256 (iv .u8 fun _ => 0)) := ht3.blk k2 (fun z => by have := HLT.out _ z; omega)
      have hs3 : wd.heap.size ≤ w3.heap.size := ht3.size
      clear hc3 ht3
      go_wp2_with fail
      refine ⟨rfl, r3, plan_force ?_⟩
      simp only [sgLHCaGet2]
      have q0 := Blk.new w3 52 (va 256 (iv .u8 fun _ => 0))
      go_wp2_with fail
      refine ⟨rfl, (r3.alloc _), plan_force ?_⟩
      simp only [sgLHCaGet2]
      refine wpList_store_row (by rfl) 52 _ _ (by rfl) (w3.heap.size) (va 256 (iv .u8 (fun _ => 0))) (by rfl) (by rfl) 52 _ q0 (sizeBk.trans (by rw [va_size])) (by simp only [va_size]) (iv_one _ _ _) ?_
      simp only [Act.put, sgPHCaGet2]
      go_wp2_with fail
      refine ⟨rfl, ((r3.alloc _).other _ (Nat.ne_of_lt r3.lt)), plan_fin ?_⟩
      simp only [sgLHCaGet2]
      go_wp2_with fail
      refine ⟨rfl, ?_⟩
      go_wp2_with fail
      go_meet
      have hsz := HSZ.out
      exact ⟨rfl, w3.heap.size, rfl, by omega, q0.set _, (r3.alloc _).other _ (Nat.ne_of_lt r3.lt), (k3.alloc _).other _ (Nat.ne_of_lt k3.lt), (HC3.out.below (below_new1 _ _)).setRow (fun z => by have := HC3.out.lt _ z; omega) _, (HT3.out.alloc _).laid (by omega) _⟩
    · simp only [sgLHCaGet2]
      have q0 := Blk.new wd 52 (va 256 (iv .u8 fun _ => 0))
      go_wp2_with fail
      refine ⟨rfl, (r2.alloc _), plan_force ?_⟩
      simp only [sgLHCaGet2]
      go_wp2_with fail
      refine (hU.out _ (HC2.out.below (below_new1 _ _))).mono ?_
      rintro x w3 ⟨rfl, hc3, ht3⟩
      have HC3 : Hid (CaAt w3 c m (some ⟨g, 0, none⟩) none (room : Int) h r bd cn L) := hc3
      have HT3 : Hid (Turns (cafo c m L) w w3) := (HT2.out.alloc _).trans ht3 fun x hx => .inl hx
      have r3 : Blk w3 w.heap.size 43 (rfC k) := ht3.blk (r2.alloc _) (fun z => by have := HLT.out _ z; omega)
      have k3 : Blk w3 (w.heap.size + 1) 52 (va 256 (iv .u8 fun _ => 0)) := ht3.blk (k2.alloc _) (fun z => by have := HLT.out _ z; omega)
      have q3 : Blk w3 wd.heap.size 52 (va 256 (iv .u8 fun _ => 0)) := ht3.blk q0 (fun z => by have := HLT.out _ z; have := HSZ.out; omega)
      have hnx : ¬ cafo c m L wd.heap.size := fun z => by
        have := HLT.out _ (HFO.out _ z)
        have := HSZ.out
        omega
      clear hc3 ht3
      go_wp2_with fail
      refine ⟨rfl, r3, plan_yield ?_⟩
      simp only [sgLHCaGet2]
      go_wp2_with fail
      first | (refine ⟨rfl, _, .agg (va 256 (iv .u8 (fun _ => 0))), rfl, Or.inl ⟨by rfl, fun W hW => by go_simp⟩, plan_yield ?_⟩) | (refine ⟨rfl, .agg (va 256 (iv .u8 (fun _ => 0))), Or.inl ⟨by rfl, fun W hW => by go_simp⟩, plan_yield ?_⟩)
      simp only [Act.put, sgPHCaGet2]
      simp only [sgLHCaGet2]
      go_wp2_with fail
      first | (refine ⟨rfl, _, .bool false, rfl, Or.inl ⟨by rfl, fun W hW => by go_simp⟩, plan_force ?_⟩) | (refine ⟨rfl, .bool false, Or.inl ⟨by rfl, fun W hW => by go_simp⟩, plan_force ?_⟩)
      simp only [Act.put, sgPHCaGet2]
      simp only [sgLHCaGet2]
      refine wpList_store_row (by rfl) 52 _ _ (by rfl) (wd.heap.size) (va 256 (iv .u8 (fun _ => 0))) (by rfl) (by rfl) 52 _ q3 (sizeBk.trans (by rw [va_size])) (by simp only [va_size]) (iv_one _ _ _) ?_
      simp only [Act.put, sgPHCaGet2]
      go_wp2_with fail
      refine ⟨rfl, (r3.other _ (by have := HSZ.out; omega)), plan_fin ?_⟩
      simp only [sgLHCaGet2]
      go_wp2_with fail
      refine ⟨rfl, ?_⟩
      go_wp2_with fail
      go_meet
      have hsz := HSZ.out
      exact ⟨rfl, wd.heap.size, rfl, by omega, q3.set _, r3.other _ (by omega), k3.other _ (by omega), HC3.out.setRow hnx _, HT3.out.laid (by omega) _⟩
  case rest =>
    obtain ⟨rfl, x, rfl, hx, q3, r3, k3, hc3, ht3⟩ := hcut
    clear r2 k2 HC2 HSZ HT2 hU
    rename World => wx
    have hcl := HCL.out
    have hdx : DiskQ wx B g N F kk lg q := HCDw.out.d.kept fun z hz => ht3.block z (HCDw.out.d.foots z hz).2 fun u => HCDw.out.ap z u hz
    have HDX : Hid (DiskQ wx B g N F kk lg q) := hdx
    have HCX : Hid (CaAt wx c m (some ⟨g, 0, none⟩) none (room : Int) h r bd cn L) := hc3
    have HTX : Hid (Turns (cafo c m L) w wx) := ht3
    have HBX : Hid (B ≤ wx.heap.size) := Nat.le_trans HBw.out ht3.size
    have HSX : Hid (w.heap.size ≤ wx.heap.size) := ht3.size
    have HKX : Hid (w.heap.size + 1 < wx.heap.size) := k3.lt
    clear q3 hdx hc3 ht3
    go_wp2_with (first
      | (refine wpList_load_rowg (by rfl) 43 _ (by rfl) (w.heap.size) (by rfl) 43 (rfC k) (0, 0) _ (by exact r3) Tryz.underlying43 (by rfl) (slSizeRef.trans (by rw [rfC_size])) ?_; simp only [Act.put, sgPHCaGet2])
      | fail)
    refine (hRD.out wx HBX.out HCX.out HDX.out).mono ?_
    rintro y w4 ⟨rfl, q4, hd4, hq4, hg4, ht4, hf4⟩
    have hlow : ∀ z, w.heap.size ≤ z → ¬ (foot g N q z ∨ z = c) := fun z hz u => by
      rcases u with u | u
      · have := (HCDw.out.d.foots z u).2
        omega
      · omega
    have k4 : Blk w4 (w.heap.size + 1) 52 (va 256 (iv .u8 fun _ => 0)) := ht4.blk k3 (hlow _ (by omega))
    have r4 : Blk w4 w.heap.size 43 (rfC k) := ht4.blk r3 (hlow _ (by omega))
    have HC4 : Hid (CaAt w4 c m (some ⟨g, 0, none⟩) none (room : Int) h (r + 1) bd cn L) := HCX.out.count hg4 fun z hz hne => ht4.block z (HCX.out.lt z hz) fun u => by
      rcases u with u | u
      · exact HCDw.out.ap z hz u
      · exact hne u
    have HD4 : Hid (DiskQ w4 B g N F (kk + 1) (lg + 1) q4) := hd4
    have HQC4 : Hid (QuietC cv false q4 (kk + 1)) := hq4
    have HT4 : Hid (Turns (cdfo g N q c m L) w w4) := (HTX.out.mono fun z hz => .inr hz).trans ht4 fun z hz => .inl (by
      rcases hz with u | u
      · exact .inl u
      · exact .inr (.inl (.inl u)))
    have HQ4 : Hid (∀ z, foot g N q4 z → foot g N q z ∨ wx.heap.size ≤ z) := hf4
    clear hd4 hq4 hg4 ht4 hf4 hlow k3 r3
    have HS4 : Hid (w.heap.size + 1 < w4.heap.size) := k4.lt
    have q0 := Blk.new w4 52 (va 256 (iv .u8 fun _ => 0))
    have y5 := q0.set (va 256 (iv .u8 f))
    have hb5 : Below w4.heap.size w4 ((w4.alloc (.cells (va 256 (iv .u8 fun _ => 0)) 52)).setRow w4.heap.size (va 256 (iv .u8 f))) := below_setRow (below_new1 _ _) (Nat.le_refl _) _
    have k5 := k4.below hb5 k4.lt
    have r5 := r4.below hb5 r4.lt
    have HC5 : Hid (CaAt ((w4.alloc (.cells (va 256 (iv .u8 fun _ => 0)) 52)).setRow w4.heap.size (va 256 (iv .u8 f))) c m (some ⟨g, 0, none⟩) none (room : Int) h (r + 1) bd cn L) := HC4.out.below hb5
    have HD5 : Hid (DiskQ ((w4.alloc (.cells (va 256 (iv .u8 fun _ => 0)) 52)).setRow w4.heap.size (va 256 (iv .u8 f))) B g N F (kk + 1) (lg + 1) q4) := HD4.out.below hb5
    have HT5 : Hid (Turns (cdfo g N q c m L) w ((w4.alloc (.cells (va 256 (iv .u8 fun _ => 0)) 52)).setRow w4.heap.size (va 256 (iv .u8 f)))) := HT4.out.trans (Turns.of_below (S := cdfo g N q c m L) hb5) fun z hz => .inl hz
    clear hb5 k4 hcl HCX HDX HTX
    go_wp2_with (first
      | (refine wpList_store_row (by rfl) 52 _ _ (by rfl) (w4.heap.size) (va 256 (iv .u8 f)) (by rfl) (by rfl) 52 _ q0 (sizeBk.trans (by rw [va_size])) (by simp only [va_size]) (iv_one _ _ _) ?_; simp only [Act.put, sgPHCaGet2])
      | (refine wpList_load_rowg (by rfl) 43 _ (by rfl) (w.heap.size) (by rfl) 43 (rfC k) (0, 0) _ (by exact r5) Tryz.underlying43 (by rfl) (slSizeRef.trans (by rw [rfC_size])) ?_; simp only [Act.put, sgPHCaGet2])
      | (refine wpList_load_row (by rfl) 52 _ (by rfl) (w4.heap.size) (by rfl) 52 (va 256 (iv .u8 f)) (0, 0) _ y5 Tryz.underlying52 (by rfl) (sizeBk.trans (by rw [va_size])) ?_; simp only [Act.put, sgPHCaGet2])
      | fail)
    have HY5 : Hid (w4.heap.size < ((w4.alloc (.cells (va 256 (iv .u8 fun _ => 0)) 52)).setRow w4.heap.size (va 256 (iv .u8 f))).heap.size ∧ ¬ cafo c m L w4.heap.size) := ⟨y5.lt, fun z => by have := HC4.out.lt _ z; omega⟩
    generalize ((w4.alloc (.cells (va 256 (iv .u8 fun _ => 0)) 52)).setRow w4.heap.size (va 256 (iv .u8 f))) = w5 at *
    generalize w4.heap.size = yb at *
    refine (hKP.out w5 HC5.out).mono ?_
    rintro y w6 ⟨rfl, b, hb6, hc6, ht6⟩
    have y6 : Blk w6 yb 52 (va 256 (iv .u8 f)) := ht6.blk y5 HY5.out.2
    have k6 : Blk w6 (w.heap.size + 1) 52 (va 256 (iv .u8 fun _ => 0)) := ht6.blk k5 (fun z => by have := HLT.out _ z; omega)
    have HC6 : Hid (CaAt w6 c m (some ⟨g, 0, none⟩) none (room : Int) h (r + 1) bd cn ((L1 ++ [(⟨k, b, f⟩ : En)]).drop ((L1 ++ [(⟨k, b, f⟩ : En)]).length - room))) := hc6
    have HB6 : Hid (w5.heap.size ≤ b) := hb6
    have HD6 : Hid (DiskQ w6 B g N F (kk + 1) (lg + 1) q4) := HD5.out.kept fun z hz => ht6.block z (HD5.out.foots z hz).2 fun u => by
      rcases HQ4.out z hz with v | v
      · exact HCDw.out.ap z u v
      · have := HLT.out _ u
        have := HSX.out
        omega
    have HT6 : Hid (Turns (cdfo g N q c m L) w w6) := HT5.out.trans ht6 fun z hz => .inl (.inr hz)
    have HS6 : Hid (w.heap.size ≤ w5.heap.size) := HT5.out.size
    have HL5 : Hid (∀ z, foot g N q4 z → z < w5.heap.size) := fun z hz => (HD5.out.foots z hz).2
    clear hb6 hc6 ht6 k5 y5
    go_wp2_with (first
      | (refine wpList_load_row (by rfl) 52 _ (by rfl) (yb) (by rfl) 52 (va 256 (iv .u8 f)) (0, 0) _ y6 Tryz.underlying52 (by rfl) (sizeBk.trans (by rw [va_size])) ?_; simp only [Act.put, sgPHCaGet2])
      | (refine wpList_store_row (by rfl) 52 _ _ (by rfl) (w.heap.size + 1) (va 256 (iv .u8 f)) (by rfl) (by rfl) 52 _ k6 (sizeBk.trans (by rw [va_size])) (by simp only [va_size]) (iv_one _ _ _) ?_; simp only [Act.put, sgPHCaGet2])
      | fail)
    try simp only [Exit.inBlock, Exit.then]
    refine bodyPost_ret (results_row2 Tryz.results32 _ _ (w.heap.size + 1) 52 (va 256 (iv .u8 f)) (0, 0) _ rfl ((k6.set _)) Tryz.underlying52 rfl (sizeBk.trans (by rw [va_size]))) rfl ?_
    have hsub : ∀ z, cafo c m ((L1 ++ [(⟨k, b, f⟩ : En)]).drop ((L1 ++ [(⟨k, b, f⟩ : En)]).length - room)) z → cafo c m L z ∨ z = b := fun z hz => by
      rcases hz with (hz | ⟨e', he', hz⟩) | hz
      · exact .inl (.inl (.inl hz))
      · have he2 := List.mem_of_mem_drop he'
        rcases List.mem_append.1 he2 with he3 | he3
        · exact .inl (.inl (.inr ⟨e', HPL.out.sub he3, hz⟩))
        · have := List.mem_singleton.1 he3
          subst this
          exact .inr hz
      · exact .inl (.inr hz)
    have hs6 := HS6.out
    have hb6 := HB6.out
    have hs4 := HS4.out
    have hyb := HY5.out.1
    have hrow : ∀ z, z ≠ w.heap.size + 1 → (w6.setRow (w.heap.size + 1) (va 256 (iv .u8 f))).heap[z]? = w6.heap[z]? := fun z hz => setRow_other _ _ z _ hz
    have hfn : ∀ z, foot g N q4 z → z ≠ w.heap.size + 1 := fun z hz e => by
      rcases HQ4.out z hz with v | v
      · have := (HCDw.out.d.foots z v).2
        omega
      · have := HKX.out
        omega
    have hsx := HSX.out
    refine ⟨rfl, q4, b, by omega, ⟨HD6.out.kept fun z hz => hrow z (hfn z hz), HC6.out.setRow (fun z => ?_) _, fun z hz u => ?_, fun z hz => ?_⟩, HQC4.out, HT6.out.laid (by omega) _, fun z hz => ?_⟩
    · rcases hsub _ z with v | v
      · have := HLT.out _ v
        omega
      · omega
    · rcases hsub _ hz with v | v
      · rcases HQ4.out z u with t | t
        · exact HCDw.out.ap z v t
        · have := HLT.out _ v
          omega
      · have := HL5.out z u
        omega
    · rcases hsub _ hz with v | v
      · exact HCDw.out.lo z v
      · have := HBw.out
        omega
    · rcases hz with hz | hz
      · rcases HQ4.out z hz with v | v
        · exact .inl (.inl v)
        · exact .inr (by omega)
      · rcases hsub _ hz with v | v
        · exact .inl (.inr v)
        · exact .inr (by omega)
end
end Go.Proofs.YtiofonffmplfmaaGreat
