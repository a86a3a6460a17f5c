/- Inodes in the memory alone: Set. -/
import Derived.Test.YtimjggkdpmgpjaaGreatDoorHInsCalls
import Derived.Handy

namespace Go.Proofs.YtimjggkdpmgpjaaGreatDoor
theorem sgLHInsSetC : (∀ (α : Type) (a : α) (l r : List α), (a :: l) ++ r = a :: (l ++ r)) ∧ (∀ (α : Type) (l : List α), [] ++ l = l) ∧ (∀ (α : Type) (l : List α), l ++ [] = l) ∧ (∀ (α β : Type) (f : α → Option β) (a : α) (l : List α), (a :: l).filterMap f = match f a with | none => l.filterMap f | some b => b :: l.filterMap f) ∧ (∀ (α β : Type) (f : α → Option β), [].filterMap f = []) ∧ (∀ (α : Type) (l : List α) (i : Nat), l.toArray[i]? = l[i]?) ∧ (∀ (α : Type) (a : α) (l : List α), (a :: l)[0]? = some a) ∧ (∀ (α : Type) (a : α) (l : List α) (i : Nat), (a :: l)[i + 1]? = l[i]?) :=
  ⟨fun _ _ _ _ => List.cons_append, fun _ _ => List.nil_append _, fun _ _ => List.append_nil _, fun _ _ _ _ _ => List.filterMap_cons, fun _ _ _ => List.filterMap_nil, fun _ _ _ => List.getElem?_toArray, fun _ _ _ => List.getElem?_cons_zero, fun _ _ _ _ => List.getElem?_cons_succ⟩
theorem sgPHInsSetC : (∀ (α : Type) (l : List α) (i : Nat) (a : α), l.toArray.setIfInBounds i a = (l.set i a).toArray) ∧ (∀ (α : Type) (a b : α) (l : List α), (a :: l).set 0 b = b :: l) ∧ (∀ (α : Type) (a b : α) (l : List α) (i : Nat), (a :: l).set (i + 1) b = a :: l.set i b) :=
  ⟨fun _ _ _ _ => List.setIfInBounds_toArray _ _ _, fun _ _ _ _ => List.set_cons_zero, fun _ _ _ _ _ => List.set_cons_succ⟩
end Go.Proofs.YtimjggkdpmgpjaaGreatDoor
namespace Go.Proofs.YtimjggkdpmgpjaaGreatDoor
open Go Go.RowKit
set_option linter.unusedSimpArgs false
set_option linter.unusedVariables false
section
variable {w w' : World} {x mf ml mc : Nat} {cp : Option Addr} {top : Int} {H : Nat → Hd} {D : Nat → Nat → Nat → Nat}
set_option maxRecDepth 100000 in
set_option maxHeartbeats 8000000 in
theorem IM.set1 (h : IM w x mf ml mc cp top H D) (n p b pb xb bb sb : Nat) (y : Hd) (sz st : Nat) (f : Nat → Nat) (hy : y.n = (n : Int)) (hs : y.s = (sz : Int)) (hsz : sz ≤ 1048576) (hp : p < (sz + 255) / 256) (hS0 : Blk w b 140 (hdC y) ∧ Blk w pb 3 #[.int .i64 (p : Int)] ∧ Blk w xb 23 #[.pointer (some ⟨x, 0, none⟩)] ∧ Blk w bb 207 (va 256 (iv .u8 f)) ∧ Blk w sb 38 #[.int .u64 ((st : Nat) : Int)]) (hb : b ≠ x ∧ b ≠ mf ∧ b ≠ ml ∧ b ≠ mc) (hsb : sb ≠ ml ∧ sb ≠ b) : Calls Tryz.prog 115 #[.pointer (some ⟨b, 0, none⟩), .pointer (some ⟨pb, 0, none⟩), .pointer (some ⟨xb, 0, none⟩), .pointer (some ⟨bb, 0, none⟩), .pointer (some ⟨sb, 0, none⟩)] w fun e w' => e = .returned (.int .i64 0) ∧ IM w' x mf ml mc cp top H (dU D n p (upF f (sz - p * 256))) ∧ Blk w' b 140 (hdC (hdT (hdS y) st)) ∧ Turns (fun z => z = ml ∨ z = b) w w' := by
  have HLV : Hid (∀ w : World, Calls Tryz.prog 112 #[.int .i64 (sz : Int)] w fun e w' => e = .returned (.int .i64 (((sz + 255) / 256 : Nat) : Int)) ∧ w' = w) := leavesOf_any sz hsz
  have HUP : Hid (∀ w : World, Calls Tryz.prog 111 #[.agg (va 256 (iv .u8 f)), .int .i64 ((sz - p * 256 : Nat) : Int)] w fun e w' => e = .returned (.agg (va 256 (iv .u8 (upF f (sz - p * 256))))) ∧ Below w.heap.size w w') := upTo_any f (sz - p * 256) (by omega)
  have HSE : Hid (∀ V, IM V x mf ml mc cp top H D → Blk V b 140 (hdC y) → Calls Tryz.prog 110 #[.pointer (some ⟨x, 0, none⟩), .pointer (some ⟨b, 0, none⟩), .int .i64 (p : Int), .agg (va 256 (iv .u8 (upF f (sz - p * 256))))] V fun e w' => e = .returned (.tuple #[]) ∧ IM w' x mf ml mc cp top H (dU D n p (upF f (sz - p * 256))) ∧ Blk w' b 140 (hdC (hdS y)) ∧ Turns (fun z => z = ml ∨ z = b) V w') := fun V h1 h2 => h1.set n p b y hy _ h2 hb
  have HY : Hid (y.n = (n : Int) ∧ y.s = (sz : Int)) := ⟨hy, hs⟩
  have HI : Hid (IM w x mf ml mc cp top H D ∧ (b ≠ x ∧ b ≠ mf ∧ b ≠ ml ∧ b ≠ mc) ∧ sb ≠ ml ∧ sb ≠ b) := ⟨h, hb, hsb⟩
  have i1 : ¬ ((((sz + 255) / 256 : Nat) : Int) ≤ (p : Int)) := by omega
  have i2 : (p : Int) < 4096 := by omega
  have i3 : (sz : Int) - (p : Int) * 256 = ((sz - p * 256 : Nat) : Int) := by omega
  have hsz' : (sz : Int) ≤ 1048576 := by omega
  clear h hb hsb hy hs hp hsz
  go_enter Tryz.func115, Tryz.ntmps115
  go_wp2_with fail
  have hSd : Blk w.drew b 140 (hdC y) ∧ Blk w.drew pb 3 #[.int .i64 (p : Int)] ∧ Blk w.drew xb 23 #[.pointer (some ⟨x, 0, none⟩)] ∧ Blk w.drew bb 207 (va 256 (iv .u8 f)) ∧ Blk w.drew sb 38 #[.int .u64 ((st : Nat) : Int)] := hS0
  refine wp_region_partsS (fun W => Blk W b 140 (hdC y) ∧ Blk W pb 3 #[.int .i64 (p : Int)] ∧ Blk W xb 23 #[.pointer (some ⟨x, 0, none⟩)] ∧ Blk W bb 207 (va 256 (iv .u8 f)) ∧ Blk W sb 38 #[.int .u64 ((st : Nat) : Int)]) [([1], 0, true), ([], 2, false), ([], 3, false), ([], 4, false), ([], 5, false), ([], 6, false), ([], 7, false)] [] [] (by kernel_rfl) (by kernel_rfl) hSd (partsI_yield ?_)
  have HWD : Hid (Below w.heap.size w w.drew) := (Below.refl _ _).drew
  have HID : Hid (IM w.drew x mf ml mc cp top H D) := HI.out.1.below HWD.out
  generalize w.drew = w1 at *
  simp only [sgLHInsSetC]
  go_wp2_with fail
  refine ⟨rfl, _, .int .i64 (p : Int), rfl, Or.inl ⟨by rfl, fun W hW => by have hW1 : W.cell? ⟨pb, 0, none⟩ = some (.int .i64 (p : Int)) := (hW.2.1.cell 0).trans rfl; go_simp⟩, partsI_force ?_⟩
  simp only [Act.put, sgPHInsSetC]
  simp only [sgLHInsSetC]
  go_wp2_with fail
  refine ⟨rfl, hSd, partsI_force ?_⟩
  simp only [sgLHInsSetC]
  go_wp2_with fail
  refine ⟨rfl, hSd, partsI_force ?_⟩
  simp only [sgLHInsSetC]
  go_wp2_with fail
  refine ⟨rfl, hSd, partsI_force ?_⟩
  simp only [sgLHInsSetC]
  have c41 := (hd_c41 hSd.1).trans (show some (Value.int .i64 y.s) = some (.int .i64 (sz : Int)) by rw [HY.out.2])
  go_wp2_with fail
  clear c41
  refine ⟨rfl, hSd, partsI_force ?_⟩
  simp only [sgLHInsSetC]
  go_wp2_with fail
  refine (HLV.out _).mono ?_
  rintro e w9 ⟨rfl, hw9⟩
  subst w9
  go_wp2_with fail
  refine ⟨rfl, hSd, partsI_force ?_⟩
  simp only [sgLHInsSetC]
  go_wp2_with fail
  refine ⟨rfl, hSd, partsI_last ?_⟩
  simp only [sgLHInsSetC]
  refine ⟨rfl, ?_⟩
  go_wp2_with fail
  have hSe : Blk w1.drew b 140 (hdC y) ∧ Blk w1.drew pb 3 #[.int .i64 (p : Int)] ∧ Blk w1.drew xb 23 #[.pointer (some ⟨x, 0, none⟩)] ∧ Blk w1.drew bb 207 (va 256 (iv .u8 f)) ∧ Blk w1.drew sb 38 #[.int .u64 ((st : Nat) : Int)] := hSd
  refine wp_region_partsS (fun W => Blk W b 140 (hdC y) ∧ Blk W pb 3 #[.int .i64 (p : Int)] ∧ Blk W xb 23 #[.pointer (some ⟨x, 0, none⟩)] ∧ Blk W bb 207 (va 256 (iv .u8 f)) ∧ Blk W sb 38 #[.int .u64 ((st : Nat) : Int)]) [([1, 4], 0, true), ([], 2, true), ([], 3, true), ([], 5, true), ([], 6, true), ([], 7, true), ([], 8, true), ([], 9, false), ([], 10, false), ([], 11, false), ([], 12, false)] [] [13] (by kernel_rfl) (by kernel_rfl) hSe (partsI_yield ?_)
  have HWE : Hid (Below w.heap.size w w1.drew) := HWD.out.drew
  have HIE : Hid (IM w1.drew x mf ml mc cp top H D) := HID.out.below ((Below.refl _ _).drew)
  generalize w1.drew = w2 at *
  simp only [sgLHInsSetC]
  go_wp2_with fail
  refine ⟨rfl, _, .pointer (some ⟨x, 0, none⟩), rfl, Or.inl ⟨by rfl, fun W hW => by have hW1 : W.cell? ⟨xb, 0, none⟩ = some (.pointer (some ⟨x, 0, none⟩)) := (hW.2.2.1.cell 0).trans rfl; go_simp⟩, partsI_yield ?_⟩
  simp only [Act.put, sgPHInsSetC]
  simp only [sgLHInsSetC]
  go_wp2_with fail
  refine ⟨rfl, _, .int .i64 (p : Int), rfl, Or.inl ⟨by rfl, fun W hW => by have hW1 : W.cell? ⟨pb, 0, none⟩ = some (.int .i64 (p : Int)) := (hW.2.1.cell 0).trans rfl; go_simp⟩, partsI_yield ?_⟩
  simp only [Act.put, sgPHInsSetC]
  simp only [sgLHInsSetC]
  go_wp2_with fail
  refine ⟨rfl, _, .agg (va 256 (iv .u8 f)), rfl, kyields_load (by rfl) 207 _ (by rfl) bb 256 (iv .u8 f) (by rfl) _ 207 (fun W hW => hW.2.2.2.1) Tryz.underlying207 rfl sizeBk, partsI_yield ?_⟩
  simp only [Act.put, sgPHInsSetC]
  simp only [sgLHInsSetC]
  go_wp2_with fail
  refine ⟨rfl, _, .pointer (some ⟨b, 0, none⟩), rfl, Or.inl ⟨by rfl, fun W hW => by go_simp⟩, partsI_yield ?_⟩
  simp only [Act.put, sgPHInsSetC]
  simp only [sgLHInsSetC]
  go_wp2_with fail
  refine ⟨rfl, _, .pointer (some ⟨b, 38, none⟩), rfl, Or.inl ⟨by rfl, fun W hW => by go_simp⟩, partsI_yield ?_⟩
  simp only [Act.put, sgPHInsSetC]
  simp only [sgLHInsSetC]
  go_wp2_with fail
  refine ⟨rfl, _, .pointer (some ⟨b, 41, none⟩), rfl, Or.inl ⟨by rfl, fun W hW => by go_simp⟩, partsI_yield ?_⟩
  simp only [Act.put, sgPHInsSetC]
  simp only [sgLHInsSetC]
  go_wp2_with fail
  refine ⟨rfl, _, .int .i64 (sz : Int), rfl, Or.inl ⟨by rfl, fun W hW => by have hW1 := (hd_c41 hW.1).trans (show some (Value.int .i64 y.s) = some (.int .i64 (sz : Int)) by rw [HY.out.2]); go_simp⟩, partsI_force ?_⟩
  simp only [Act.put, sgPHInsSetC]
  simp only [sgLHInsSetC]
  have pc : w2.cell? ⟨pb, 0, none⟩ = some (.int .i64 (p : Int)) := (hSe.2.1.cell 0).trans rfl
  go_wp2_with fail
  clear pc
  refine ⟨rfl, hSe, partsI_force ?_⟩
  simp only [sgLHInsSetC]
  go_wp2_with fail
  refine ⟨rfl, hSe, partsI_force ?_⟩
  simp only [sgLHInsSetC]
  go_wp2_with fail
  refine ⟨rfl, hSe, partsI_force ?_⟩
  simp only [sgLHInsSetC]
  go_wp2_with fail
  refine (HUP.out _).mono ?_
  rintro e w3 ⟨rfl, hb3⟩
  have S3 : Blk w3 b 140 (hdC y) ∧ Blk w3 pb 3 #[.int .i64 (p : Int)] ∧ Blk w3 xb 23 #[.pointer (some ⟨x, 0, none⟩)] ∧ Blk w3 bb 207 (va 256 (iv .u8 f)) ∧ Blk w3 sb 38 #[.int .u64 ((st : Nat) : Int)] := ⟨hSe.1.below hb3 hSe.1.lt, hSe.2.1.below hb3 hSe.2.1.lt, hSe.2.2.1.below hb3 hSe.2.2.1.lt, hSe.2.2.2.1.below hb3 hSe.2.2.2.1.lt, hSe.2.2.2.2.below hb3 hSe.2.2.2.2.lt⟩
  go_wp2_with fail
  refine ⟨rfl, S3, partsI_last ?_⟩
  simp only [sgLHInsSetC]
  have hI3 := HIE.out.below hb3
  have HB3 : Hid (Below w.heap.size w w3) := HWE.out.trans (hb3.mono HWE.out.size)
  have HS3 := HSE.out w3 hI3 S3.1
  have q3 := S3.2.2.2.2
  clear S3 hb3 hI3 HSE hSe hSd
  go_wp2_with fail
  refine HS3.mono ?_
  rintro e w4 ⟨rfl, hI4, y4, ht4⟩
  have q4 : Blk w4 sb 38 #[.int .u64 ((st : Nat) : Int)] := (ht4.block sb q3.lt (fun hs => by
    rcases hs with hs | hs
    · exact HI.out.2.2.1 hs
    · exact HI.out.2.2.2 hs)).trans q3
  have d42 := hd_c42 y4
  have e42 : w4.frozen? ⟨b, 42, none⟩ = false := y4.frozen 42
  have s0 : w4.cell? ⟨sb, 0, none⟩ = some (.int .u64 ((st : Nat) : Int)) := (q4.cell 0).trans rfl
  have HE : Hid (IM (w4.setCell ⟨b, 42, none⟩ (.int .u64 ((st : Nat) : Int))) x mf ml mc cp top H (dU D n p (upF f (sz - p * 256))) ∧ Blk (w4.setCell ⟨b, 42, none⟩ (.int .u64 ((st : Nat) : Int))) b 140 (hdC (hdT (hdS y) st)) ∧ Turns (fun z => z = ml ∨ z = b) w (w4.setCell ⟨b, 42, none⟩ (.int .u64 ((st : Nat) : Int)))) := ⟨hI4.other b 42 _ HI.out.2.1, hd_putT y4 st, ((Turns.bel HB3.out).tr ht4).tr (Turns.cell w4 b 42 _ (.inr rfl))⟩
  clear hI4 y4 ht4 HS3 q3 q4
  go_wp2_with fail
  refine ⟨rfl, ?_⟩
  go_wp2_with fail
  go_ret
  exact ⟨rfl, HE.out.1, HE.out.2.1, HE.out.2.2⟩
set_option maxRecDepth 100000 in
theorem wrongLeaf_ok (x n p : Nat) (h1 : 1 ≤ n) (h2 : n ≤ 4096) (hp : p < 4096) (w : World) : Calls Tryz.prog 114 #[.pointer (some ⟨x, 0, none⟩), .int .i64 (n : Int), .int .i64 (p : Int)] w fun e w' => e = .returned (.int .i64 0) ∧ w' = w := by
  have HW := wrong_ok x (n : Int) (by omega) (by omega) w
  have p0 : ¬ ((p : Int) < 0) := by omega
  have p1 : ¬ ((4096 : Int) ≤ (p : Int)) := by omega
  go_enter Tryz.func114, Tryz.ntmps114
  go_wp2_with fail
  refine HW.mono ?_
  rintro e w1 ⟨rfl, hw1⟩
  subst hw1
  go_wp2_with fail
  go_ret
  exact ⟨rfl, rfl⟩
set_option maxRecDepth 100000 in
set_option maxHeartbeats 8000000 in
theorem IM.setM (h : IM w x mf ml mc cp top H D) (n p : Nat) (h1 : 1 ≤ n) (h2 : n ≤ 4096) (hk : (H n).k ≠ 0) (hn : (H n).n = (n : Int)) (sz st : Nat) (f : Nat → Nat) (hs : (H n).s = (sz : Int)) (hsz : sz ≤ 1048576) (hp : p < (sz + 255) / 256) : Calls Tryz.prog 89 #[.pointer (some ⟨x, 0, none⟩), .int .i64 (n : Int), .int .i64 (p : Int), .agg (va 256 (iv .u8 f)), .int .u64 ((st : Nat) : Int)] w fun e w' => e = .returned (.int .i64 0) ∧ IM w' x mf ml mc cp top (hU H n (hdT (hdS (H n)) st)) (dU D n p (upF f (sz - p * 256))) ∧ Turns (fun z => z = ml ∨ z = mf) w w' := by
  have hb1 : Below w.heap.size w ((((w.alloc (.cells #[.pointer (some ⟨x, 0, none⟩)] 23)).alloc (.cells #[.int .i64 (p : Int)] 3)).alloc (.cells (va 256 (iv .u8 f)) 207)).alloc (.cells #[.int .u64 ((st : Nat) : Int)] 38)) := ((((Below.refl _ _).alloc (Nat.le_refl _) _).alloc (by simp) _).alloc (by simp; omega) _).alloc (by simp; omega) _
  have k0 : Blk ((((w.alloc (.cells #[.pointer (some ⟨x, 0, none⟩)] 23)).alloc (.cells #[.int .i64 (p : Int)] 3)).alloc (.cells (va 256 (iv .u8 f)) 207)).alloc (.cells #[.int .u64 ((st : Nat) : Int)] 38)) w.heap.size 23 #[.pointer (some ⟨x, 0, none⟩)] := (((Blk.new _ _ _).alloc _).alloc _).alloc _
  have k1 : Blk ((((w.alloc (.cells #[.pointer (some ⟨x, 0, none⟩)] 23)).alloc (.cells #[.int .i64 (p : Int)] 3)).alloc (.cells (va 256 (iv .u8 f)) 207)).alloc (.cells #[.int .u64 ((st : Nat) : Int)] 38)) (w.heap.size + 1) 3 #[.int .i64 (p : Int)] := ((Blk.new1 _ _ _ _).alloc _).alloc _
  have k2 : Blk ((((w.alloc (.cells #[.pointer (some ⟨x, 0, none⟩)] 23)).alloc (.cells #[.int .i64 (p : Int)] 3)).alloc (.cells (va 256 (iv .u8 f)) 207)).alloc (.cells #[.int .u64 ((st : Nat) : Int)] 38)) (w.heap.size + 1 + 1) 207 (va 256 (iv .u8 f)) := by
    have := (Blk.new ((w.alloc (.cells #[.pointer (some ⟨x, 0, none⟩)] 23)).alloc (.cells #[.int .i64 (p : Int)] 3)) 207 (va 256 (iv .u8 f))).alloc (.cells #[.int .u64 ((st : Nat) : Int)] 38)
    rw [show ((w.alloc (.cells #[.pointer (some ⟨x, 0, none⟩)] 23)).alloc (.cells #[.int .i64 (p : Int)] 3)).heap.size = w.heap.size + 1 + 1 by simp] at this
    exact this
  have k3 : Blk ((((w.alloc (.cells #[.pointer (some ⟨x, 0, none⟩)] 23)).alloc (.cells #[.int .i64 (p : Int)] 3)).alloc (.cells (va 256 (iv .u8 f)) 207)).alloc (.cells #[.int .u64 ((st : Nat) : Int)] 38)) (w.heap.size + 1 + 1 + 1) 38 #[.int .u64 ((st : Nat) : Int)] := by
    have := Blk.new (((w.alloc (.cells #[.pointer (some ⟨x, 0, none⟩)] 23)).alloc (.cells #[.int .i64 (p : Int)] 3)).alloc (.cells (va 256 (iv .u8 f)) 207)) 38 #[.int .u64 ((st : Nat) : Int)]
    rw [show (((w.alloc (.cells #[.pointer (some ⟨x, 0, none⟩)] 23)).alloc (.cells #[.int .i64 (p : Int)] 3)).alloc (.cells (va 256 (iv .u8 f)) 207)).heap.size = w.heap.size + 1 + 1 + 1 by simp] at this
    exact this
  have hI1 := h.below hb1
  have hlt := h.lts
  have HC := hI1.changeSet n h1 h2 hk (.pointer (some ⟨w.heap.size + 1, 0, none⟩)) (.pointer (some ⟨w.heap.size, 0, none⟩)) (.pointer (some ⟨w.heap.size + 1 + 1, 0, none⟩)) (.pointer (some ⟨w.heap.size + 1 + 1 + 1, 0, none⟩)) (hdT (hdS (H n)) st) (dU D n p (upF f (sz - p * 256))) fun V b hV hI hB hge => hI.set1 n p b (w.heap.size + 1) w.heap.size (w.heap.size + 1 + 1) (w.heap.size + 1 + 1 + 1) (H n) sz st f hn hs hsz hp ⟨hB, k1.below hV k1.lt, k0.below hV k0.lt, k2.below hV k2.lt, k3.below hV k3.lt⟩ (hI1.apart b hge) ⟨by omega, by have := k3.lt; omega⟩
  have HWL := wrongLeaf_ok x n p h1 h2 (by omega) ((((w.alloc (.cells #[.pointer (some ⟨x, 0, none⟩)] 23)).alloc (.cells #[.int .i64 (p : Int)] 3)).alloc (.cells (va 256 (iv .u8 f)) 207)).alloc (.cells #[.int .u64 ((st : Nat) : Int)] 38))
  have x0 : ((((w.alloc (.cells #[.pointer (some ⟨x, 0, none⟩)] 23)).alloc (.cells #[.int .i64 (p : Int)] 3)).alloc (.cells (va 256 (iv .u8 f)) 207)).alloc (.cells #[.int .u64 ((st : Nat) : Int)] 38)).cell? ⟨w.heap.size, 0, none⟩ = some (.pointer (some ⟨x, 0, none⟩)) := (k0.cell 0).trans rfl
  have x1 : ((((w.alloc (.cells #[.pointer (some ⟨x, 0, none⟩)] 23)).alloc (.cells #[.int .i64 (p : Int)] 3)).alloc (.cells (va 256 (iv .u8 f)) 207)).alloc (.cells #[.int .u64 ((st : Nat) : Int)] 38)).cell? ⟨w.heap.size + 1, 0, none⟩ = some (.int .i64 (p : Int)) := (k1.cell 0).trans rfl
  have HB1 : Hid (Below w.heap.size w ((((w.alloc (.cells #[.pointer (some ⟨x, 0, none⟩)] 23)).alloc (.cells #[.int .i64 (p : Int)] 3)).alloc (.cells (va 256 (iv .u8 f)) 207)).alloc (.cells #[.int .u64 ((st : Nat) : Int)] 38))) := hb1
  clear h hb1 k0 k1 k2 k3 hI1 hk h1 h2 hn hs hsz hp hlt
  go_enter Tryz.func89, Tryz.ntmps89
  go_wp2_with fail
  generalize ((((w.alloc (.cells #[.pointer (some ⟨x, 0, none⟩)] 23)).alloc (.cells #[.int .i64 (p : Int)] 3)).alloc (.cells (va 256 (iv .u8 f)) 207)).alloc (.cells #[.int .u64 ((st : Nat) : Int)] 38)) = w1 at *
  refine HWL.mono ?_
  rintro e w2 ⟨rfl, hw2⟩
  subst w2
  go_wp2_with fail
  refine HC.mono ?_
  rintro e w3 ⟨rfl, hI3, ht3⟩
  have HE : Hid (IM w3 x mf ml mc cp top (hU H n (hdT (hdS (H n)) st)) (dU D n p (upF f (sz - p * 256))) ∧ Turns (fun z => z = ml ∨ z = mf) w w3) := ⟨hI3, (Turns.bel HB1.out).tr ht3⟩
  clear hI3 ht3 HC HB1
  go_wp2_with fail
  go_ret
  exact ⟨rfl, HE.out.1, HE.out.2⟩
set_option maxRecDepth 100000 in
set_option maxHeartbeats 8000000 in
theorem IM.leafM (h : IM w x mf ml mc cp top H D) (n p : Nat) (h1 : 1 ≤ n) (h2 : n ≤ 4096) (hk : (H n).k ≠ 0) (hn : (H n).n = (n : Int)) (hl : (H n).left = 0) (hp : p < 4096) : Calls Tryz.prog 107 #[.pointer (some ⟨x, 0, none⟩), .int .i64 (n : Int), .int .i64 (p : Int)] w fun e w' => e = .returned (.tuple #[.agg (va 256 (iv .u8 (D n p))), .int .i64 0]) ∧ Below w.heap.size w w' := by
  have hz := zero_bk
  have hz2 := zero_hd
  have hb1 : Below w.heap.size w (w.alloc (.cells (va 256 (iv .u8 fun _ => 0)) 207)) := below_new1 _ _
  have r1 : Blk (w.alloc (.cells (va 256 (iv .u8 fun _ => 0)) 207)) w.heap.size 207 (va 256 (iv .u8 fun _ => 0)) := Blk.new _ _ _
  have HWL := wrongLeaf_ok x n p h1 h2 hp (w.alloc (.cells (va 256 (iv .u8 fun _ => 0)) 207))
  have hI1 := h.below hb1
  have HU := hI1.used n h1 h2 hk
  have HLO : Hid (∀ V, Below (w.alloc (.cells (va 256 (iv .u8 fun _ => 0)) 207)).heap.size (w.alloc (.cells (va 256 (iv .u8 fun _ => 0)) 207)) V → Calls Tryz.prog 109 #[.pointer (some ⟨x, 0, none⟩), .agg (hdC (H n)), .int .i64 (p : Int)] V fun e w' => e = .returned (.tuple #[.agg (va 256 (iv .u8 (D n p))), .int .i64 0]) ∧ Below V.heap.size V w') := fun V hV => (hI1.below hV).leafOf n p (H n) hn (by rw [hl]; omega)
  clear h hk h1 h2 hn hl hp hI1
  go_enter Tryz.func107, Tryz.ntmps107
  go_wp2_with fail
  generalize (w.alloc (.cells (va 256 (iv .u8 fun _ => 0)) 207)) = w1 at *
  refine HWL.mono ?_
  rintro e w2 ⟨rfl, hw2⟩
  subst w2
  go_wp2_with fail
  refine HU.mono ?_
  rintro e w3 ⟨rfl, hb3⟩
  have q4 : Blk (w3.alloc (.cells (hdC hd00) 140)) w3.heap.size 140 (hdC hd00) := Blk.new _ _ _
  have q4' := q4.set (hdC (H n))
  have hb4' : Below w3.heap.size w3 ((w3.alloc (.cells (hdC hd00) 140)).setRow w3.heap.size (hdC (H n))) := below_setRow (below_new1 _ _) (Nat.le_refl _) _
  have hb4 := hb3.trans (hb4'.mono hb3.size)
  have r4 := r1.below hb4 r1.lt
  have HL4 := HLO.out _ hb4
  have HB4 : Hid (Below w.heap.size w ((w3.alloc (.cells (hdC hd00) 140)).setRow w3.heap.size (hdC (H n)))) := hb1.trans (hb4.mono hb1.size)
  clear HU HWL HLO hb3 hb4 hb4' r1 hb1
  go_wp2_with (first
    | (refine wpList_store_row (by rfl) 140 _ _ (by rfl) (w3.heap.size) (hdC (H n)) (by rfl) (by rfl) 140 (hdC hd00) (by exact q4) (sizeHd.trans (by rw [hdC_size])) (by simp only [hdC_size]) (hdC_all _) ?_; simp only [Act.put, sgPHInsSetC])
    | (refine wpList_load_rowg (by rfl) 140 _ (by rfl) (w3.heap.size) (by rfl) 140 (hdC (H n)) (0, 0) _ (by exact q4') Tryz.underlying140 (by rfl) (sizeHd.trans (by rw [hdC_size])) ?_; simp only [Act.put, sgPHInsSetC])
    | fail)
  clear q4
  generalize ((w3.alloc (.cells (hdC hd00) 140)).setRow w3.heap.size (hdC (H n))) = w4 at *
  refine HL4.mono ?_
  rintro e w5 ⟨rfl, hb5⟩
  have r5 := r4.below hb5 r4.lt
  have HB5 : Hid (Below w.heap.size w w5) := HB4.out.trans (hb5.mono HB4.out.size)
  clear HL4 hb5 r4 HB4 q4'
  go_wp2_with (first
    | (refine wpList_store_row (by rfl) 207 _ _ (by rfl) (w.heap.size) (va 256 (iv .u8 (D n p))) (by rfl) (by rfl) 207 (_) (by exact r5) (sizeBk.trans (by rw [va_size])) (by simp only [va_size]) (iv_one _ _ _) ?_; simp only [Act.put, sgPHInsSetC])
    | fail)
  try simp only [Exit.inBlock, Exit.then]
  refine bodyPost_ret (results_row2 Tryz.results107 _ _ (w.heap.size) 207 (va 256 (iv .u8 (D n p))) (0, 0) _ rfl (r5.set _) Tryz.underlying207 rfl (sizeBk.trans (by rw [va_size]))) rfl ?_
  exact ⟨rfl, below_setRow HB5.out (Nat.le_refl _) _⟩
end
end Go.Proofs.YtimjggkdpmgpjaaGreatDoor
