/- Where each path that is told leads. -/
import Derived.Test.YtimjggkdpmgpjaaGreatDoorHFiBT
import Derived.Test.YtimjggkdpmgpjaaGreatDoorHFiOvM
import Derived.Test.YtimjggkdpmgpjaaGreatDoorHNaRSo
import Derived.Test.YtimjggkdpmgpjaaGreatDoorHDkWrite
import Derived.Maps.AppendAt
import Derived.Handy
import Derived.Test.YtimjggkdpmgpjaaGreatDoorHNaCmp2
import Derived.BigQuiet
import Derived.Deep.QuietTactic
import Derived.Deep.Cut
import Derived.Deep.DeepCutAuto
import Derived.Test.YtimjggkdpmgpjaaGreatDoorHGrBuild

namespace Go.Proofs.YtimjggkdpmgpjaaGreatDoor
open Go Go.RowKit Go.Nam
set_option linter.unusedSimpArgs false
set_option linter.unusedVariables false
def boV (b : Bool) : Value := .bool b
theorem boV_zero (w : World) : (zeroValue 4).run Tryz.prog w = .ok (.bool false) w := di_zero (by kernel_rfl) w
theorem infoRFd : (Tryz.prog.info? 44).map (fun i => (i.zero, i.size, i.bytes)) = some (some (.agg #[.string ⟨#[]⟩, .int .i64 0]), 2, 24) := by kernel_rfl
/-- the document's map of the directories that were gone into -/
def MB (w : World) (rb : Nat) (I : List Nat) : Prop := ∃ l : List (Int × Bool), MapIs jK boV w rb l ∧ ∀ m : Nat, findIn (m : Int) l = if m ∈ I then some true else none
section
variable {w w' : World} {rb : Nat} {I : List Nat}
theorem MB.lt (h : MB w rb I) : rb < w.heap.size := by
  obtain ⟨l, h1, _⟩ := h
  exact h1.lt
theorem MB.turn {T : Nat → Prop} (h : MB w rb I) (ht : Turns T w w') (hT : ¬ T rb) : MB w' rb I := by
  obtain ⟨l, h1, h2⟩ := h
  exact ⟨l, h1.of (ht.block rb h1.lt hT), h2⟩
theorem MB.new {k : Nat} (h : w.heap[rb]? = some (.map #[] k)) : MB w rb [] := ⟨[], ⟨#[], k, h, rfl⟩, fun m => by simp [findIn]⟩
theorem MB.look (h : MB w rb I) (n : Nat) : (Instr.lookup 84 (.map (some rb)) (.int .i64 (n : Int)) false).run Tryz.prog w = .ok (.bool (decide (n ∈ I))) w := by
  obtain ⟨l, h1, h2⟩ := h
  have := intMap_look (V := boV) Tryz.underlying84 Tryz.underlying3 boV_zero h1 (n : Int) false
  rw [if_neg (by decide), h2 n] at this
  rw [this]
  by_cases c : n ∈ I
  · rw [if_pos c, decide_eq_true c]
    rfl
  · rw [if_neg c, decide_eq_false c]
    rfl
theorem MB.put (h : MB w rb I) (n : Nat) : ∃ w', (Instr.mapUpdate 84 (.map (some rb)) (.int .i64 (n : Int)) (.bool true)).run Tryz.prog w = .ok () w' ∧ MB w' rb (n :: I) ∧ Turns (fun z => z = rb) w w' := by
  obtain ⟨l, h1, h2⟩ := h
  obtain ⟨w', l', g1, g2, g3, _, _, _, g4⟩ := intMap_put (V := boV) Tryz.underlying84 Tryz.underlying3 h1 (n : Int) true
  refine ⟨w', g1, ⟨l', g2, fun m => ?_⟩, g4⟩
  rw [g3]
  by_cases c : m = n
  · subst c
    simp
  · rw [if_neg (by omega), h2]
    simp [c]
end
/-- cells of what is found -/
def fdL : List Fd → List Value
  | [] => []
  | x :: l => .string (bsL (frmL x.1)) :: .int .i64 ((x.2 : Nat) : Int) :: fdL l
theorem fdL_len : ∀ l : List Fd, (fdL l).length = l.length * 2
  | [] => rfl
  | x :: l => by simp [fdL, fdL_len l]; omega
theorem fdL_app : ∀ l m : List Fd, fdL (l ++ m) = fdL l ++ fdL m
  | [], m => rfl
  | x :: l, m => by simp [fdL, fdL_app l m]
theorem fdL_one : ∀ l : List Fd, ∀ u ∈ fdL l, u.oneCell' = true
  | [], u, h => by simp [fdL] at h
  | x :: l, u, h => by
    simp [fdL] at h
    rcases h with rfl | rfl | h
    · rfl
    · rfl
    · exact fdL_one l u h
theorem own_one2 {w : World} {B e g : Nat} {a b : Value} (h : Blk w g e #[a, b]) (hB : B ≤ g) : w.ownsRow B e 2 (.slice (some ⟨g, 0, none⟩) 1 1) 1 [a, b] :=
  ⟨by simp, .inr ⟨g, 1, #[a, b], rfl, hB, h, Nat.le_refl _, by unfold maxLen; omega, by simp, by simp⟩⟩
/-- cells of an own row, behind its address -/
theorem own_from {w : World} {B e size n : Nat} {g c : Nat} {xs : List Value} (h : w.ownsRow B e size (.slice (some ⟨g, 0, none⟩) n c) n xs) : ∀ j u, xs[j]? = some u → w.cell? ((⟨g, 0, none⟩ : Addr).add j) = some u := fun j u hj => by
  have hl := (List.getElem?_eq_some_iff.1 hj).1
  have h1 := h.1
  rw [Addr.add_mid, Nat.zero_add, h.cellAt j (by omega)]
  exact hj
theorem acc_text (N : List ByteArray) (x : ByteArray) : bsL (accN N) ++ ⟨#[47]⟩ ++ x = bsL (accN (N ++ [x])) := by
  apply ba_ext
  rw [acc_snoc]
  simp [bsL]
theorem acc_ne {N : List ByteArray} (h : N ≠ []) : accN N ≠ [] := by
  cases N with
  | nil => exact absurd rfl h
  | cons x N => rw [acc_cons]; simp
/-- what the document's over tells -/
def ROv (L : List Fd) (J : List Nat) (rb : Nat) (V : World) (e : Ending) (w' : World) : Prop := ∃ v, e = .returned (.tuple #[v, .map (some rb)]) ∧ w'.ownsRow V.heap.size 44 2 v L.length (fdL L) ∧ MB w' rb J ∧ Turns (fun z => z = rb) V w'
theorem first9 {N : List ByteArray} {P1 P2 : ByteArray} (h1 : P1 = bsL (frmL N)) (h2 : P2 = bsL (accN N)) : (P2 = ⟨#[]⟩ → P1 = ⟨#[47]⟩) ∧ (P2 ≠ ⟨#[]⟩ → P1 = P2 ∧ P2.toList.isEmpty = false) := by
  subst h1
  subst h2
  constructor
  · intro h
    have h3 : accN N = [] := by have := congrArg (fun b => b.data.toList) h; simpa [bsL_data] using this
    have h4 : N = [] := Classical.byContradiction fun q => acc_ne q h3
    subst h4
    rfl
  · intro h
    have h4 : N ≠ [] := fun q => h (by subst q; rfl)
    refine ⟨by rw [frm_acc h4], ?_⟩
    have h5 : (bsL (accN N)).toList ≠ [] := by rw [Lib.toList_data, bsL_data]; exact acc_ne h4
    cases h : (bsL (accN N)).toList with
    | nil => exact absurd h h5
    | cons a l => rfl
set_option maxRecDepth 100000 in
set_option maxHeartbeats 16000000 in
/-- a file, or a directory that was gone into already -/
theorem rover_out {r rb : Nat} {F : Fo} (N : List ByteArray) (n : Nat) (I : List Nat) (ho : ¬ (F.dr n = true ∧ n ∉ I)) (w : World) (hM : BM w r F) (hB : MB w rb I) :
    Calls Tryz.prog 27 #[.map (some r), .int .i64 (n : Int), .string (bsL (accN N)), .int .i64 (N.length : Int), .map (some rb)] w (ROv [(N, n)] I rb w) := by
  obtain ⟨t, ht, hlk⟩ := (hM.below (below_new1 w (.cells #[.string (bsL (frmL N)), .int .i64 (n : Int)] 44))).look n
  obtain ⟨ta, tn, tc⟩ := t
  have hlb := (hB.turn (T := fun _ => False) (Turns.of_below (below_new1 w (.cells #[.string (bsL (frmL N)), .int .i64 (n : Int)] 44))) (fun q => q.elim)).look n
  have HB : Hid (MB w rb I) := hB
  have HM : Hid (BM w r F) := hM
  obtain ⟨P2, hP2⟩ : ∃ P, P = bsL (accN N) := ⟨_, rfl⟩
  obtain ⟨P1, hP1⟩ : ∃ P, P = bsL (frmL N) := ⟨_, rfl⟩
  have HP1 : Hid (P1 = bsL (frmL N)) := hP1
  have HP2 : Hid (P2 = bsL (accN N)) := hP2
  have HO : Hid ((P2 = ⟨#[]⟩ → P1 = ⟨#[47]⟩) ∧ (P2 ≠ ⟨#[]⟩ → P1 = P2 ∧ P2.toList.isEmpty = false)) := first9 hP1 hP2
  rw [← hP1] at ht hlk hlb
  rw [← hP2]
  clear hP1 hP2
  clear hB hM
  go_enter Tryz.func27, Tryz.ntmps27
  go_upto_if 22 with fail
  go_cut [12] (fun v12 wx => v12 = .string P1 ∧ wx = w)
  case first =>
    by_cases hN : P2 = ⟨#[]⟩
    · have e := HO.out.1 hN
      subst hN
      subst e
      have he0 : (⟨#[]⟩ : ByteArray).toList.isEmpty = true := by rw [Lib.toList_data]; rfl
      clear HO
      go_wp2_with fail
      · go_meet
        exact ⟨rfl, rfl⟩
      · rename_i h0
        rw [he0] at h0
        cases h0
    · obtain ⟨e, hq⟩ := HO.out.2 hN
      subst e
      clear HO
      go_wp2_with fail
      · rename_i h0
        rw [hq] at h0
        cases h0
      · go_meet
        exact ⟨rfl, rfl⟩
  case rest =>
    obtain ⟨rfl, rfl⟩ := hcut
    have HV : Hid (ROv [(N, n)] I rb wc (.returned (.tuple #[.slice (some ⟨wc.heap.size, 0, none⟩) 1 1, .map (some rb)])) (wc.alloc (.cells #[.string P1, .int .i64 (n : Int)] 44))) := by
      have e := HP1.out
      subst e
      exact ⟨_, rfl, own_one2 (Blk.new _ _ _) (Nat.le_refl _), HB.out.turn (T := fun _ => False) (Turns.of_below (below_new1 _ _)) (fun q => q.elim), Turns.of_below (below_new1 _ _)⟩
    cases hd : F.dr n with
    | false =>
      rw [hd] at hlk
      clear ht hlb HO
      go_wp2_with fail
      go_ret2
      exact HV.out
    | true =>
      have hi : n ∈ I := Classical.byContradiction fun c => ho ⟨hd, c⟩
      rw [hd] at hlk
      rw [decide_eq_true hi] at hlb
      clear ht HO
      go_wp2_with fail
      go_ret2
      exact HV.out
theorem lkc_map {w w' : World} {rb : Nat} {a : Option Addr} {n : Nat} {N : Nat → Int} {S : Nat → ByteArray} (h : IsLkC w a n N S) (hm : ∃ es k, w.heap[rb]? = some (.map es k)) (ht : Turns (fun z => z = rb) w w') : IsLkC w' a n N S := fun i hi => by
  obtain ⟨b, o, h1, h2, h3, h4⟩ := h i hi
  have hne : b ≠ rb := fun q => by
    subst q
    obtain ⟨es, k, hm⟩ := hm
    simp [World.cell?, hm] at h3
  have e := ht.block b h2 hne
  have hz := ht.size
  exact ⟨b, o, h1, by omega, (World.cell?_of_block (w := w) e).trans h3, (World.cell?_of_block (w := w) e).trans h4⟩
theorem BM.map {w w' : World} {r rb : Nat} {F : Fo} (h : BM w r F) (hm : ∃ es k, w.heap[rb]? = some (.map es k)) (hne : rb ≠ r) (ht : Turns (fun z => z = rb) w w') : BM w' r F := by
  obtain ⟨l, L, h1, h2, h3⟩ := h
  exact ⟨l, L, h1.of (ht.block r h1.lt fun q => hne q.symm), h2, fun n hn => by
    obtain ⟨k1, k2, k3, k4⟩ := h3 n hn
    exact ⟨k1, lkc_map k2 hm ht, k3, k4⟩⟩
theorem kown_map {w w' : World} {rb B e size n : Nat} {v : Value} {xs : List Value} (h : w.ownsRow B e size v n xs) (hm : ∃ es k, w.heap[rb]? = some (.map es k)) (ht : Turns (fun z => z = rb) w w') : w'.ownsRow B e size v n xs := kown_kept h fun k _ hk => ht.block k (h.lt k hk).2 fun q => by
  subst q
  obtain ⟨es, kk, hm⟩ := hm
  rcases h.2 with ⟨hv, _⟩ | ⟨g, cap, cur, hv, _, hg, _⟩
  · rw [hv] at hk
    cases hk
  · rw [hv] at hk
    simp [Value.ownBlock] at hk
    subst hk
    rw [hm] at hg
    cases hg
theorem MB.isMap {w : World} {rb : Nat} {I : List Nat} (h : MB w rb I) : ∃ es k, w.heap[rb]? = some (.map es k) := by
  obtain ⟨l, ⟨es, k, h1, _⟩, _⟩ := h
  exact ⟨es, k, h1⟩
theorem liR_mem9 {N : Nat → Int} {S : Nat → ByteArray} {n : Nat} {e : Lk} (h : e ∈ liR N S n) : ∃ i, i < n ∧ e = (N i, S i) := by
  simp [liR] at h
  obtain ⟨i, h1, h2⟩ := h
  exact ⟨i, h1, h2.symm⟩
theorem drop_at9 {R : List Lk} {j : Nat} {e : Lk} (h : R[j]? = some e) : R.drop j = e :: R.drop (j + 1) := by
  obtain ⟨h1, h2⟩ := List.getElem?_eq_some_iff.1 h
  rw [List.drop_eq_getElem_cons h1, h2]
/-- what stands in the loop -/
structure RL9 (w W : World) (r rb : Nat) (F : Fo) (v13 : Value) (g2 c2 K : Nat) (R : List Lk) (L : List Fd) (J : List Nat) : Prop where
  out : W.ownsRow w.heap.size 44 2 v13 L.length (fdL L)
  srt : W.ownsRow w.heap.size 82 2 (.slice (some ⟨g2, 0, none⟩) K c2) K (lkR R)
  mb : MB W rb J
  tn : Turns (fun z => z = rb) w W
  ap : v13.ownBlock ≠ some g2
section
variable {w W : World} {r rb : Nat} {F : Fo} {v13 : Value} {g2 c2 K : Nat} {R : List Lk} {L : List Fd} {J : List Nat}
theorem RL9.alloc (h : RL9 w W r rb F v13 g2 c2 K R L J) (o : Obj) : RL9 w (W.alloc o) r rb F v13 g2 c2 K R L J := by
  have hb : Below W.heap.size W (W.alloc o) := (Below.refl _ _).alloc (Nat.le_refl _) _
  exact ⟨h.out.alloc _, h.srt.alloc _, h.mb.turn (T := fun _ => False) (Turns.of_below hb) (fun q => q.elim), h.tn.tr (Turns.of_below hb), h.ap⟩
theorem RL9.step (h : RL9 w W r rb F v13 g2 c2 K R L J) (hB : rb < w.heap.size) {W5 W6 : World} {L2 : List Fd} {J2 : List Nat} {v2 : Value} (ht : Turns (fun z => z = rb) W W5) (mb5 : MB W5 rb J2) (ho : W6.ownsRow w.heap.size 44 2 v2 (L.length + L2.length) (fdL L ++ fdL L2)) (hg : W5.grownBy W6 v13.ownBlock) (ha : v2.ownBlock = v13.ownBlock ∨ v2.ownBlock = some W5.heap.size) : RL9 w W6 r rb F v2 g2 c2 K R (L ++ L2) J2 := by
  have h5 := kown_map h.srt h.mb.isMap ht
  have o5 := kown_map h.out h.mb.isMap ht
  have t6 : Turns (fun z => v13.ownBlock = some z) W5 W6 := by
    obtain ⟨g1, g2, g3, g4, g5⟩ := hg
    exact ⟨g1, g2, g3, g4, fun b hb hn => g5 b hb fun q => hn q.symm⟩
  refine ⟨?_, ?_, ?_, ?_, ?_⟩
  · rw [fdL_app, List.length_append]; exact ho
  · exact kown_kept h5 fun k _ hk => t6.block k (h5.lt k hk).2 fun q => h.ap (q.trans (by have e : some g2 = some k := hk; rw [e]))
  · exact mb5.turn t6 fun q => by have := (o5.lt rb q).1; omega
  · exact (h.tn.tr ht).trans t6 fun b q => .inr (o5.lt b q).1
  · rcases ha with e | e
    · rw [e]; exact h.ap
    · rw [e]
      have := (h5.lt g2 rfl).2
      intro q
      injection q with q
      omega
end
set_option maxRecDepth 100000 in
set_option maxHeartbeats 16000000 in
theorem rover_in {r rb all f : Nat} {F : Fo} (hne : rb ≠ r) (hK : ∀ d, F.dr d = true → F.K d ≤ 16384 ∧ d ≤ all) (hal : all ≤ 31) (hE : ∀ d, F.dr d = true → ∀ p, p < F.K d → 1 ≤ F.N d p ∧ (F.S d p).size ≤ 56) (IH0 : ∀ (N : List ByteArray) (n : Nat) (I : List Nat) (V : World), (accN N).length ≤ 1024 → N.length ≤ 32 → lft F all I ≤ f → BM V r F → MB V rb I → Calls Tryz.prog 27 #[.map (some r), .int .i64 (n : Int), .string (bsL (accN N)), .int .i64 (N.length : Int), .map (some rb)] V (ROv (ov F f N n I).1 (ov F f N n I).2 rb V)) (N : List ByteArray) (n : Nat) (I : List Nat) (hN : (accN N).length ≤ 1024) (hN2 : N.length ≤ 32) (hi : F.dr n = true ∧ n ∉ I) (hl : lft F all I ≤ f + 1) (w : World) (hM : BM w r F) (hB : MB w rb I) :
    Calls Tryz.prog 27 #[.map (some r), .int .i64 (n : Int), .string (bsL (accN N)), .int .i64 (N.length : Int), .map (some rb)] w (ROv (ov F (f + 1) N n I).1 (ov F (f + 1) N n I).2 rb w) := by
  obtain ⟨i0, hi0, hz0, hz1, hz2⟩ := info_parts infoRFd
  have HIH : Hid (∀ (N : List ByteArray) (n : Nat) (I : List Nat) (V : World), (accN N).length ≤ 1024 → N.length ≤ 32 → lft F all I ≤ f → BM V r F → MB V rb I → Calls Tryz.prog 27 #[.map (some r), .int .i64 (n : Int), .string (bsL (accN N)), .int .i64 (N.length : Int), .map (some rb)] V (ROv (ov F f N n I).1 (ov F f N n I).2 rb V)) := IH0
  have HCST : Hid (rb ≠ r ∧ (∀ d, F.dr d = true → F.K d ≤ 16384 ∧ d ≤ all) ∧ all ≤ 31 ∧ (∀ d, F.dr d = true → ∀ p, p < F.K d → 1 ≤ F.N d p ∧ (F.S d p).size ≤ 56)) := ⟨hne, hK, hal, hE⟩
  have HIN : Hid (F.dr n = true ∧ n ∉ I) := hi
  have HNL : Hid ((accN N).length ≤ 1024 ∧ N.length ≤ 32) := ⟨hN, hN2⟩
  have HLF : Hid (lft F all (n :: I) ≤ f) := by have := lft_cons hi (hK n hi.1).2; show lft F all (n :: I) ≤ f; omega
  rw [ov_in hi]
  clear IH0 hne hK hal hE hN hN2 hl
  obtain ⟨t, ht, hlk⟩ := (hM.below (below_new1 w (.cells #[.string (bsL (frmL N)), .int .i64 (n : Int)] 44))).look n
  obtain ⟨ta, tn, tc⟩ := t
  have hlb := (hB.turn (T := fun _ => False) (Turns.of_below (below_new1 w (.cells #[.string (bsL (frmL N)), .int .i64 (n : Int)] 44))) (fun q => q.elim)).look n
  have HB : Hid (MB w rb I) := hB
  have HM : Hid (BM w r F) := hM
  obtain ⟨P2, hP2⟩ : ∃ P, P = bsL (accN N) := ⟨_, rfl⟩
  obtain ⟨P1, hP1⟩ : ∃ P, P = bsL (frmL N) := ⟨_, rfl⟩
  have HP1 : Hid (P1 = bsL (frmL N)) := hP1
  have HP2 : Hid (P2 = bsL (accN N)) := hP2
  have HO : Hid ((P2 = ⟨#[]⟩ → P1 = ⟨#[47]⟩) ∧ (P2 ≠ ⟨#[]⟩ → P1 = P2 ∧ P2.toList.isEmpty = false)) := first9 hP1 hP2
  rw [← hP1] at ht hlk hlb
  rw [← hP2]
  clear hP1 hP2
  clear hB hM
  go_enter Tryz.func27, Tryz.ntmps27
  go_upto_if 22 with fail
  go_cut [12] (fun v12 wx => v12 = .string P1 ∧ wx = w)
  case first =>
    by_cases hN : P2 = ⟨#[]⟩
    · have e := HO.out.1 hN
      subst hN
      subst e
      have he0 : (⟨#[]⟩ : ByteArray).toList.isEmpty = true := by rw [Lib.toList_data]; rfl
      clear HO
      go_wp2_with fail
      · go_meet
        exact ⟨rfl, rfl⟩
      · rename_i h0
        rw [he0] at h0
        cases h0
    · obtain ⟨e, hq⟩ := HO.out.2 hN
      subst e
      clear HO
      go_wp2_with fail
      · rename_i h0
        rw [hq] at h0
        cases h0
      · go_meet
        exact ⟨rfl, rfl⟩
  case rest =>
    obtain ⟨rfl, rfl⟩ := hcut
    rw [hi.1] at hlk
    rw [decide_eq_false hi.2] at hlb
    have hL := ht hi.1
    obtain ⟨w2, hup, hB2, hT2⟩ := (HB.out.turn (T := fun _ => False) (Turns.of_below (below_new1 wc (.cells #[.string P1, .int .i64 (n : Int)] 44))) (fun q => q.elim)).put n
    have k1' : tn = F.K n := hL.1
    subst k1'
    have hmap : ∃ es k, (wc.alloc (.cells #[.string P1, .int .i64 (n : Int)] 44)).heap[rb]? = some (.map es k) := (HB.out.turn (T := fun _ => False) (Turns.of_below (below_new1 wc (.cells #[.string P1, .int .i64 (n : Int)] 44))) (fun q => q.elim)).isMap
    have hM2 : BM w2 r F := ((HM.out.below (below_new1 _ _)).map hmap HCST.out.1 hT2)
    have hO2 : w2.ownsRow wc.heap.size 44 2 (.slice (some ⟨wc.heap.size, 0, none⟩) 1 1) 1 [.string P1, .int .i64 (n : Int)] := kown_map (own_one2 (Blk.new _ _ _) (Nat.le_refl _)) hmap hT2
    have hT02 : Turns (fun z => z = rb) wc w2 := (Turns.of_below (below_new1 _ _)).tr hT2
    have HSRT := rsorted_any ta (F.K n) tc (by have := (HCST.out.2.1 n hi.1).1; omega) (F.N n) (F.S n) (fun i hi2 => by have := (HCST.out.2.2.2 n hi.1 i hi2).2; omega) w2 (lkc_map hL.2.1 hmap hT2)
    have HS2 : Hid (MB w2 rb (n :: I) ∧ BM w2 r F ∧ w2.ownsRow wc.heap.size 44 2 (.slice (some ⟨wc.heap.size, 0, none⟩) 1 1) 1 [.string P1, .int .i64 (n : Int)] ∧ Turns (fun z => z = rb) wc w2) := ⟨hB2, hM2, hO2, hT02⟩
    clear hB2 hM2 hO2 hT02 hT2 hL ht hmap
    have HKN : Hid (F.K n ≤ 16384) := (HCST.out.2.1 n hi.1).1
    obtain ⟨KN, hKN⟩ : ∃ KN, KN = F.K n := ⟨_, rfl⟩
    have HKE : Hid (KN = F.K n) := hKN
    rw [← hKN] at HSRT hlk
    clear hKN
    clear hi HO
    go_wp2_with fail
    refine HSRT.mono ?_
    rintro e w3 ⟨g2, c2, R, rfl, hRl, hRs, hRp, hRo, hb3⟩
    have HR : Hid (R = srt (F.N n) (F.S n) (F.K n) ∧ R.length = KN ∧ R.Perm (liR (F.N n) (F.S n) KN)) := ⟨by rw [HKE.out] at hRp; exact srt_eq hRs hRp, hRl, hRp⟩
    have HL3 : Hid (RL9 wc w3 r rb F (.slice (some ⟨wc.heap.size, 0, none⟩) 1 1) g2 c2 KN R [(N, n)] (n :: I)) := by
      have e := HP1.out
      subst e
      exact ⟨kown_below HS2.out.2.2.1 hb3, kown_mono hRo HS2.out.2.2.2.size, HS2.out.1.turn (T := fun _ => False) (Turns.of_below hb3) (fun q => q.elim), HS2.out.2.2.2.tr (Turns.of_below hb3), fun q => by have h9 := (hRo.lt g2 rfl).1; have h8 : wc.heap.size < w2.heap.size := (HS2.out.2.2.1.lt wc.heap.size rfl).2; injection q with q; have q2 : wc.heap.size = g2 := q; omega⟩
    clear hRl hRs hRp hRo hb3 HSRT HS2 hup
    go_wp2_with fail
    go_loopw [4, 13, 17] (fun v4 v13 v17 wr => Hid (∃ (j : Nat) (L : List Fd) (J : List Nat), j ≤ KN ∧ v4 = .map (some rb) ∧ v17 = .int .i64 (j : Int) ∧ RL9 wc wr r rb F v13 g2 c2 KN R L J ∧ L ++ (ovs (ov F f) N (R.drop j) J).1 = (N, n) :: (ovs (ov F f) N R (n :: I)).1 ∧ (ovs (ov F f) N (R.drop j) J).2 = (ovs (ov F f) N R (n :: I)).2 ∧ lft F all J ≤ f ∧ L.length + 16384 * lft F all J ≤ 1 + j + 16384 * lft F all (n :: I))) (fun _ _ v17 _ => KN - (intOf v17).toNat)
    case atStart => exact ⟨0, [(N, n)], n :: I, Nat.zero_le _, rfl, rfl, HL3.out, by simp, by simp, HLF.out, by simp⟩
    case round =>
      clear HL3
      obtain ⟨WR, rfl⟩ : ∃ u, u = wr := ⟨_, rfl⟩
      obtain ⟨j, L, J, hj, rfl, rfl, hRL, hL, hJ, hf, hlen⟩ := Hid.out hrel
      obtain ⟨V1, rfl⟩ : ∃ u, u = u13 := ⟨_, rfl⟩
      have HT : Hid (RL9 wc WR r rb F V1 g2 c2 KN R L J) := hRL
      have HQ : Hid (L ++ (ovs (ov F f) N (R.drop j) J).1 = (N, n) :: (ovs (ov F f) N R (n :: I)).1 ∧ (ovs (ov F f) N (R.drop j) J).2 = (ovs (ov F f) N R (n :: I)).2 ∧ lft F all J ≤ f ∧ L.length + 16384 * lft F all J ≤ 1 + j + 16384 * lft F all (n :: I)) := ⟨hL, hJ, hf, hlen⟩
      clear hrel hRL hL hJ hf hlen
      by_cases hin : j < KN
      · have j1 : (j : Int) < (KN : Int) := by omega
        have j0 : (0 : Int) ≤ (j : Int) := by omega
        have hK2 := HKN.out
        have hKe := HKE.out
        have kz : (KN : Int) ≤ 16384 := by omega
        clear hK2 hKe
        obtain ⟨⟨e1, x⟩, he⟩ : ∃ e, R[j]? = some e := ⟨_, List.getElem?_eq_getElem (by rw [HR.out.2.1]; exact hin)⟩
        obtain ⟨m, hm⟩ : ∃ m : Nat, e1 = (m : Int) ∧ 1 ≤ m ∧ x.size ≤ 56 := by
          have h9 := HR.out.2.2.mem_iff.1 (List.mem_of_getElem? he)
          obtain ⟨i, hi, hx⟩ := liR_mem9 h9
          have h8 := HCST.out.2.2.2 n HIN.out.1 i (by have := HKE.out; omega)
          rw [Prod.mk.injEq] at hx
          refine ⟨e1.toNat, ?_, ?_, ?_⟩
          · rw [hx.1]; omega
          · rw [hx.1]; omega
          · rw [hx.2]; exact h8.2
        obtain ⟨rfl, hm1, hxs⟩ := hm
        have hc := lkR_at R j _ he
        have c0 : WR.cell? ⟨g2, j * 2, none⟩ = some (.int .i64 (m : Int)) := by have h9 := own_from HT.out.srt (j * 2) _ hc.1; rwa [Addr.add_mid, Nat.zero_add] at h9
        have c1 : WR.cell? ⟨g2, j * 2 + 1, none⟩ = some (.string x) := by have h9 := own_from HT.out.srt (j * 2 + 1) _ hc.2; rwa [Addr.add_mid, Nat.zero_add] at h9
        have HC9 : Hid ((lkR R)[j * 2]? = some (.int .i64 (m : Int))) := hc.1
        have hdr : R.drop j = ((m : Int), x) :: R.drop (j + 1) := drop_at9 he
        have HD : Hid (R.drop j = ((m : Int), x) :: R.drop (j + 1)) := hdr
        clear hc hdr he
        have HAC : Hid (P2 ++ ⟨#[47]⟩ ++ x = bsL (accN (N ++ [x]))) := by rw [HP2.out]; exact acc_text N x
        obtain ⟨P3, hP3⟩ : ∃ P3, P2 ++ ⟨#[47]⟩ ++ x = P3 := ⟨_, rfl⟩
        have HP3 : Hid (P3 = bsL (accN (N ++ [x]))) := hP3.symm.trans HAC.out
        have hsz3 : P3.size = (accN (N ++ [x])).length := by rw [HP3.out, bsL_size]
        have HA0 : Hid ((P3.size : Int) = ((accN (N ++ [x])).length : Int)) := by show (P3.size : Int) = _; rw [hsz3]
        have hs1 : (P2 ++ (⟨#[47]⟩ : ByteArray)).size = P2.size + 1 := ByteArray.size_append
        have hs2 : P3.size ≤ 4000 := by
          have h8 := HNL.out.1
          have h7 : P2.size = (accN N).length := by rw [HP2.out, bsL_size]
          rw [← hP3, ByteArray.size_append, hs1]
          omega
        have hs3 : P2.size ≤ 1024 := by rw [HP2.out, bsL_size]; exact HNL.out.1
        clear hsz3 HAC
        by_cases hok : okN9 N x
        · have i2 : (N.length : Int) + 1 ≤ 32 := by have := hok.1; omega
          have i3 : (P3.size : Int) ≤ 1024 := by have := hok.2; have := HA0.out; omega
          have HR1 : Hid (RL9 wc (WR.alloc (.cells #[] 44)) r rb F V1 g2 c2 KN R L J) := HT.out.alloc _
          have c2' : (WR.alloc (.cells #[] 44)).cell? ⟨g2, j * 2, none⟩ = some (.int .i64 (m : Int)) := by have h9 := own_from HR1.out.srt (j * 2) _ HC9.out; rwa [Addr.add_mid, Nat.zero_add] at h9
          have HC0 := HIH.out (N ++ [x]) m J (WR.alloc (.cells #[] 44)) hok.2 (by have := hok.1; simp; omega) HQ.out.2.2.1 (HM.out.map HB.out.isMap HCST.out.1 HR1.out.tn) HR1.out.mb
          rw [← HP3.out, show (((N ++ [x]).length : Nat) : Int) = (N.length : Int) + 1 by simp] at HC0
          have hln := ov_len (F := F) (all := all) HCST.out.2.1 f (N ++ [x]) m J
          obtain ⟨y, hy⟩ := ov_head F f (N ++ [x]) m J
          have hsub := ov_sub F f (N ++ [x]) m J
          have hst := ovs_yes (g := ov F f) (N := N) (e := ((m : Int), x)) hok (R.drop (j + 1)) J
          rw [show (((m : Int), x) : Lk).1.toNat = m from Int.toNat_natCast m] at hst
          have hst' : ovs (ov F f) N (((m : Int), x) :: R.drop (j + 1)) J = ((ov F f (N ++ [x]) m J).1 ++ (ovs (ov F f) N (R.drop (j + 1)) (ov F f (N ++ [x]) m J).2).1, (ovs (ov F f) N (R.drop (j + 1)) (ov F f (N ++ [x]) m J).2).2) := hst
          clear hst
          generalize (ov F f (N ++ [x]) m J).1 = L2 at *
          generalize (ov F f (N ++ [x]) m J).2 = J2 at *
          have HQ2 : Hid ((L ++ L2) ++ (ovs (ov F f) N (R.drop (j + 1)) J2).1 = (N, n) :: (ovs (ov F f) N R (n :: I)).1 ∧ (ovs (ov F f) N (R.drop (j + 1)) J2).2 = (ovs (ov F f) N R (n :: I)).2 ∧ lft F all J2 ≤ f ∧ (L ++ L2).length + 16384 * lft F all J2 ≤ 1 + (j + 1) + 16384 * lft F all (n :: I)) := by
            obtain ⟨q1, q2, q3, q4⟩ := HQ.out
            rw [HD.out, hst'] at q1 q2
            refine ⟨by rw [List.append_assoc]; exact q1, q2, Nat.le_trans (lft_mono hsub) q3, ?_⟩
            rw [List.length_append]
            omega
          have hb9 : L.length + L2.length ≤ 1000000 := by
            have q4 := HQ2.out.2.2.2
            have q5 := lft_top F all (n :: I)
            have q6 := HCST.out.2.2.1
            rw [List.length_append] at q4
            omega
          have HL2 : Hid (1 ≤ L2.length) := by show 1 ≤ L2.length; rw [hy]; simp
          clear hln hy hsub hst' hm1 hok
          go_wp2_with fail
          refine HC0.mono ?_
          rintro e W5 ⟨v5, rfl, ho5, hm5, ht5⟩
          obtain ⟨g5, cap5, rfl⟩ : ∃ g5 cap5, v5 = .slice (some ⟨g5, 0, none⟩) L2.length cap5 := by
            rcases ho5.2 with ⟨_, h0⟩ | ⟨g5, cap5, cur5, h0, _⟩
            · have := HL2.out; omega
            · exact ⟨g5, cap5, h0⟩
          have HC5 : Hid (∀ j u, (fdL L2)[j]? = some u → W5.cell? ((⟨g5, 0, none⟩ : Addr).add j) = some u) := own_from ho5
          have HO5 : Hid (W5.ownsRow wc.heap.size 44 2 V1 L.length (fdL L)) := kown_map HR1.out.out HR1.out.mb.isMap ht5
          have HT5 : Hid (Turns (fun z => z = rb) (WR.alloc (.cells #[] 44)) W5 ∧ MB W5 rb J2) := ⟨ht5, hm5⟩
          have HBS : Hid (wc.heap.size ≤ W5.heap.size) := Nat.le_trans HR1.out.tn.size ht5.size
          clear ho5 hm5 ht5 HC0 c0 c1 c2'
          go_wp2_with (first
            | (at_builtin; refine wpList_append_own_at (by rfl) _ _ 36 (by rfl) wc.heap.size 44 i0 (.agg #[.string ⟨#[]⟩, .int .i64 0]) 2 24 Tryz.underlying36 hi0 hz0 hz1 hz2 rfl (by decide) _ _ _ (by rfl) (by exact HO5.out) ⟨g5, 0, none⟩ L2.length cap5 (fdL L2) (by rfl) (fdL_len L2) (by exact HC5.out) (fdL_one L2) (by unfold maxLen; omega) (by omega) (by exact HBS.out) (fun v2 U2 ho2 hg2 ha2 => ?_); simp only [Act.put, List.setIfInBounds_toArray, List.set_cons_zero, List.set_cons_succ])
            | fail)
          have HL6 : Hid (RL9 wc U2 r rb F v2 g2 c2 KN R (L ++ L2) J2) := RL9.step HR1.out HB.out.lt HT5.out.1 HT5.out.2 ho2 hg2 ha2
          clear ho2 hg2 ha2 HC5 HO5 HT5 HBS HR1
          go_wp2_with fail
          go_roundw
          case rel => exact ⟨j + 1, L ++ L2, J2, by omega, rfl, by first | rfl | go_num | simp, HL6.out, HQ2.out.1, HQ2.out.2.1, HQ2.out.2.2.1, HQ2.out.2.2.2⟩
          case measure => simp [intOf]; omega
        · have HQ3 : Hid (L ++ (ovs (ov F f) N (R.drop (j + 1)) J).1 = (N, n) :: (ovs (ov F f) N R (n :: I)).1 ∧ (ovs (ov F f) N (R.drop (j + 1)) J).2 = (ovs (ov F f) N R (n :: I)).2 ∧ lft F all J ≤ f ∧ L.length + 16384 * lft F all J ≤ 1 + (j + 1) + 16384 * lft F all (n :: I)) := by
            obtain ⟨q1, q2, q3, q4⟩ := HQ.out
            rw [HD.out, ovs_no (e := ((m : Int), x)) hok] at q1 q2
            exact ⟨q1, q2, q3, by omega⟩
          by_cases h32 : N.length + 1 ≤ 32
          · have i2 : (N.length : Int) + 1 ≤ 32 := by omega
            have i3 : (1024 : Int) < (P3.size : Int) := by
              apply Classical.byContradiction
              intro q
              have := HA0.out
              exact hok ⟨h32, by omega⟩
            clear hok h32 hm1
            go_wp2_with fail
            go_roundw
            case rel => exact ⟨j + 1, L, J, by omega, rfl, by first | rfl | go_num | simp, HT.out, HQ3.out.1, HQ3.out.2.1, HQ3.out.2.2.1, HQ3.out.2.2.2⟩
            case measure => simp [intOf]; omega
          · have i2 : (32 : Int) < (N.length : Int) + 1 := by omega
            have i4 : (N.length : Int) ≤ 32 := by have := HNL.out.2; omega
            clear hok h32 hm1
            go_wp2_with fail
            go_roundw
            case rel => exact ⟨j + 1, L, J, by omega, rfl, by first | rfl | go_num | simp, HT.out, HQ3.out.1, HQ3.out.2.1, HQ3.out.2.2.1, HQ3.out.2.2.2⟩
            case measure => simp [intOf]; omega
      · have i1 : ¬ (j : Int) < (KN : Int) := by omega
        have HE : Hid (ROv ((N, n) :: (ovs (ov F f) N (srt (F.N n) (F.S n) (F.K n)) (n :: I)).1) (ovs (ov F f) N (srt (F.N n) (F.S n) (F.K n)) (n :: I)).2 rb wc (.returned (.tuple #[V1, .map (some rb)])) WR) := by
          obtain ⟨q1, q2, _, _⟩ := HQ.out
          rw [List.drop_eq_nil_of_le (by rw [HR.out.2.1]; omega), ovs_nil] at q1 q2
          rw [List.append_nil] at q1
          rw [← HR.out.1, ← q1, ← q2]
          exact ⟨V1, rfl, HT.out.out, HT.out.mb, HT.out.tn⟩
        go_wp2_with fail
        go_ret2
        exact HE.out
/-- the document's over, whatever is left -/
theorem rover_any {r rb all : Nat} {F : Fo} (hne : rb ≠ r) (hK : ∀ d, F.dr d = true → F.K d ≤ 16384 ∧ d ≤ all) (hal : all ≤ 31) (hE : ∀ d, F.dr d = true → ∀ p, p < F.K d → 1 ≤ F.N d p ∧ (F.S d p).size ≤ 56) : ∀ (f : Nat) (N : List ByteArray) (n : Nat) (I : List Nat) (V : World), (accN N).length ≤ 1024 → N.length ≤ 32 → lft F all I ≤ f → BM V r F → MB V rb I → Calls Tryz.prog 27 #[.map (some r), .int .i64 (n : Int), .string (bsL (accN N)), .int .i64 (N.length : Int), .map (some rb)] V (ROv (ov F f N n I).1 (ov F f N n I).2 rb V) := by
  intro f
  induction f with
  | zero =>
    intro N n I V h1 h2 h3 h4 h5
    have hn : ¬ (F.dr n = true ∧ n ∉ I) := fun q => by
      have := lft_cons q (hK n q.1).2
      omega
    rw [ov_out hn]
    exact rover_out N n I hn V h4 h5
  | succ f ih =>
    intro N n I V h1 h2 h3 h4 h5
    by_cases hn : F.dr n = true ∧ n ∉ I
    · exact rover_in hne hK hal hE ih N n I h1 h2 hn h3 V h4 h5
    · rw [ov_out hn]
      exact rover_out N n I hn V h4 h5
end Go.Proofs.YtimjggkdpmgpjaaGreatDoor

namespace Go.Proofs.YtimjggkdpmgpjaaGreatDoor
open Go Go.RowKit Go.Nam
set_option linter.unusedSimpArgs false
set_option linter.unusedVariables false
/-- all that there is -/
noncomputable def allL (F : Fo) (all : Nat) : List Fd := (ov F (lft F all []) [] 1 []).1
set_option maxRecDepth 100000 in
set_option maxHeartbeats 16000000 in
theorem rall_any {r all : Nat} {F : Fo} (hK : ∀ d, F.dr d = true → F.K d ≤ 16384 ∧ d ≤ all) (hal : all ≤ 31) (hE : ∀ d, F.dr d = true → ∀ p, p < F.K d → 1 ≤ F.N d p ∧ (F.S d p).size ≤ 56) (w : World) (hM : BM w r F) :
    Calls Tryz.prog 11 #[.map (some r)] w fun e w' => ∃ v, e = .returned v ∧ w'.ownsRow w.heap.size 44 2 v (allL F all).length (fdL (allL F all)) ∧ Below w.heap.size w w' := by
  have hne : w.heap.size ≠ r := fun q => by have := hM.lt; omega
  have hb : ∀ o, Below w.heap.size w (w.alloc o) := fun o => below_new1 w o
  have HC : ∀ V, Below w.heap.size w V → MB V w.heap.size [] → Calls Tryz.prog 27 #[.map (some r), .int .i64 1, .string ⟨#[]⟩, .int .i64 0, .map (some w.heap.size)] V (ROv (ov F (lft F all []) [] 1 []).1 (ov F (lft F all []) [] 1 []).2 w.heap.size V) := fun V hV hm => rover_any hne hK hal hE (lft F all []) [] 1 [] V (show (accN []).length ≤ 1024 from (by show (0:Nat) ≤ 1024; omega)) (by simp) (Nat.le_refl _) (hM.below hV) hm
  have HH : Hid (∀ V, Below w.heap.size w V → MB V w.heap.size [] → Calls Tryz.prog 27 #[.map (some r), .int .i64 1, .string ⟨#[]⟩, .int .i64 0, .map (some w.heap.size)] V (ROv (ov F (lft F all []) [] 1 []).1 (ov F (lft F all []) [] 1 []).2 w.heap.size V)) := HC
  have HL : Hid (allL F all = (ov F (lft F all []) [] 1 []).1) := rfl
  obtain ⟨LL, hLL⟩ : ∃ q, q = allL F all := ⟨_, rfl⟩
  have HLL : Hid (LL = allL F all) := hLL
  rw [← hLL]
  clear hLL HC hM hb
  go_enter Tryz.func11, Tryz.ntmps11
  have hmm := @run_makeMap Tryz.prog
  have hm0 : MB (w.alloc (.map #[] 0)) w.heap.size [] := MB.new (heap_alloc_new w _)
  have hb0 : Below w.heap.size w (w.alloc (.map #[] 0)) := below_new1 w _
  have HC := HH.out _ hb0 hm0
  have HB0 : Hid (Below w.heap.size w (w.alloc (.map #[] 0))) := hb0
  clear hm0 hb0
  rw [← HL.out, ← HLL.out] at HC
  go_wp2_with fail
  refine HC.mono ?_
  rintro e w2 ⟨v, rfl, ho, hm2, ht2⟩
  have HE : Hid (w2.ownsRow w.heap.size 44 2 v LL.length (fdL LL) ∧ Below w.heap.size w w2) := ⟨kown_mono ho HB0.out.size, HB0.out.trans (ht2.below HB0.out.size (fun b q => by rw [q]; exact Nat.le_refl _))⟩
  clear ho hm2 ht2 HC
  go_wp2_with fail
  go_ret
  exact ⟨_, rfl, HE.out.1, HE.out.2⟩
end Go.Proofs.YtimjggkdpmgpjaaGreatDoor

namespace Go.Proofs.YtimjggkdpmgpjaaGreatDoor
open Go Go.RowKit Go.Nam
set_option linter.unusedSimpArgs false
set_option linter.unusedVariables false
theorem fiL_at (H : Nat → Hd) : ∀ (L : List Fd) (j : Nat) (x : Fd), L[j]? = some x → ∀ k u, (fdH H x)[k]? = some u → (fiL H L)[j * 6 + k]? = some u
  | [], j, x, h, k, u, hu => by simp at h
  | y :: L, 0, x, h, k, u, hu => by
    simp at h
    subst h
    have hk : k < 6 := by
      have := (Array.getElem?_eq_some_iff.1 hu).1
      exact this
    rw [fiL, Nat.zero_mul, Nat.zero_add, List.getElem?_append_left (by rw [Array.length_toList]; exact hk), Array.getElem?_toList]
    exact hu
  | y :: L, j + 1, x, h, k, u, hu => by
    have ih := fiL_at H L j x (by simpa using h) k u hu
    rw [fiL, List.getElem?_append_right (by rw [Array.length_toList]; show 6 ≤ _; omega), ← ih]
    congr 1
    rw [Array.length_toList]
    show (j + 1) * 6 + k - 6 = _
    omega
theorem fdL_at : ∀ (L : List Fd) (j : Nat) (x : Fd), L[j]? = some x → (fdL L)[j * 2]? = some (.string (bsL (frmL x.1))) ∧ (fdL L)[j * 2 + 1]? = some (.int .i64 ((x.2 : Nat) : Int))
  | [], j, x, h => by simp at h
  | y :: L, 0, x, h => by
    simp at h
    subst h
    exact ⟨rfl, rfl⟩
  | y :: L, j + 1, x, h => by
    obtain ⟨h1, h2⟩ := fdL_at L j x (by simpa using h)
    refine ⟨?_, ?_⟩
    · rw [← h1, show (j + 1) * 2 = j * 2 + 2 by omega]; rfl
    · rw [← h2, show (j + 1) * 2 + 1 = j * 2 + 1 + 2 by omega]; rfl
/-- what All told lies at an address -/
def IsFi (w : World) (H : Nat → Hd) (a : Option Addr) (L : List Fd) : Prop := ∀ j x, L[j]? = some x → ∃ g, a = some ⟨g, 0, none⟩ ∧ g < w.heap.size ∧ ∀ k u, (fdH H x)[k]? = some u → w.cell? ⟨g, j * 6 + k, none⟩ = some u
def IsRd (w : World) (a : Option Addr) (L : List Fd) : Prop := ∀ j x, L[j]? = some x → ∃ g, a = some ⟨g, 0, none⟩ ∧ g < w.heap.size ∧ w.cell? ⟨g, j * 2, none⟩ = some (.string (bsL (frmL x.1))) ∧ w.cell? ⟨g, j * 2 + 1, none⟩ = some (.int .i64 ((x.2 : Nat) : Int))
theorem IsFi.below {w w' : World} {H : Nat → Hd} {a : Option Addr} {L : List Fd} (h : IsFi w H a L) (hb : Below w.heap.size w w') : IsFi w' H a L := fun j x hj => by
  obtain ⟨g, h1, h2, h3⟩ := h j x hj
  exact ⟨g, h1, Nat.lt_of_lt_of_le h2 hb.size, fun k u hu => (hb.cell (p := ⟨g, j * 6 + k, none⟩) h2).trans (h3 k u hu)⟩
theorem IsRd.below {w w' : World} {a : Option Addr} {L : List Fd} (h : IsRd w a L) (hb : Below w.heap.size w w') : IsRd w' a L := fun j x hj => by
  obtain ⟨g, h1, h2, h3, h4⟩ := h j x hj
  exact ⟨g, h1, Nat.lt_of_lt_of_le h2 hb.size, (hb.cell (p := ⟨g, j * 2, none⟩) h2).trans h3, (hb.cell (p := ⟨g, j * 2 + 1, none⟩) h2).trans h4⟩
theorem own_fi {w : World} {H : Nat → Hd} {B e n c : Nat} {a : Option Addr} {L : List Fd} (hn : n = L.length) (h : w.ownsRow B e 6 (.slice a n c) n (fiL H L)) : IsFi w H a L := fun j x hj => by
  have hl := (List.getElem?_eq_some_iff.1 hj).1
  obtain ⟨g, cap, e1, _, e3⟩ := kown_form h (by omega)
  injection e1 with e1 _ e4
  subst e1
  refine ⟨g, rfl, e3, fun k u hu => ?_⟩
  have := own_from h (j * 6 + k) u (fiL_at H L j x hj k u hu)
  rwa [Addr.add_mid, Nat.zero_add] at this
theorem own_rd {w : World} {B e n c : Nat} {a : Option Addr} {L : List Fd} (hn : n = L.length) (h : w.ownsRow B e 2 (.slice a n c) n (fdL L)) : IsRd w a L := fun j x hj => by
  have hl := (List.getElem?_eq_some_iff.1 hj).1
  obtain ⟨g, cap, e1, _, e3⟩ := kown_form h (by omega)
  injection e1 with e1 _ e4
  subst e1
  have h1 := own_from h (j * 2) _ (fdL_at L j x hj).1
  have h2 := own_from h (j * 2 + 1) _ (fdL_at L j x hj).2
  rw [Addr.add_mid, Nat.zero_add] at h1 h2
  exact ⟨g, rfl, e3, h1, h2⟩
theorem BT19.allLen {w W : World} {x mf ml mc : Nat} {cp : Option Addr} {r all : Nat} {F : Fo} (h : BT19 w W x mf ml mc cp r all F) : (allP F all).length ≤ 1000000 := by
  obtain ⟨H, D, hB⟩ := h.bi.fix
  exact allP_len (fun d hd => ⟨h.bi.kle hd, (hB.dm d hd).2⟩) hB.al.2
theorem BT19.allR {w W : World} {x mf ml mc : Nat} {cp : Option Addr} {r all : Nat} {F : Fo} (h : BT19 w W x mf ml mc cp r all F) : Calls Tryz.prog 11 #[.map (some r)] W fun e w' => ∃ a c, e = .returned (.slice a (allP F all).length c) ∧ IsRd w' a (allP F all) ∧ Below W.heap.size W w' := by
  obtain ⟨H, D, hB⟩ := h.bi.fix
  exact (rall_any (fun d hd => ⟨h.bi.kle hd, (hB.dm d hd).2⟩) hB.al.2 (fun d hd p hp => ⟨(hB.en d hd p hp).1, by
    have := isName_len (h.nm d hd p hp)
    rw [Array.length_toList] at this
    exact this.2⟩) W h.bm).mono fun e w' ⟨v, h1, h2, h3⟩ => by
    obtain ⟨a, c, rfl⟩ := kown_slice h2
    exact ⟨a, c, h1, own_rd rfl h2, h3⟩
end Go.Proofs.YtimjggkdpmgpjaaGreatDoor

namespace Go.Proofs.YtimjggkdpmgpjaaGreatDoor
open Go Go.RowKit Go.Nam
set_option linter.unusedVariables false
set_option linter.unusedSimpArgs false
theorem wk_congr {F : Fo} {nm nm' : Nat → ByteArray} : ∀ n, (∀ i, i < n → nm i = nm' i) → wkA F nm n = wkA F nm' n ∧ feE F nm n = feE F nm' n ∧ naE nm n = naE nm' n
  | 0, _ => ⟨rfl, rfl, rfl⟩
  | n + 1, h => by
    obtain ⟨h1, h2, h3⟩ := wk_congr (F := F) (nm := nm) (nm' := nm') n fun i hi => h i (by omega)
    have e := h n (by omega)
    refine ⟨?_, ?_, ?_⟩
    · show (F.N (wkA F nm n) (fiN (F.S (wkA F nm n)) (F.K (wkA F nm n)) (nm n))).toNat = (F.N (wkA F nm' n) (fiN (F.S (wkA F nm' n)) (F.K (wkA F nm' n)) (nm' n))).toNat
      rw [h1, e]
    · show (if feE F nm n = 0 then wkE F nm n else feE F nm n) = (if feE F nm' n = 0 then wkE F nm' n else feE F nm' n)
      have e2 : wkE F nm n = wkE F nm' n := by
        unfold wkE wkP
        rw [h1, e]
      rw [h2, e2]
    · show (if naE nm n = 0 then nameE (nm n).data.toList else naE nm n) = (if naE nm' n = 0 then nameE (nm' n).data.toList else naE nm' n)
      rw [h3, e]
/-- these names lead to that inode -/
structure Leads (F : Fo) (N : List ByteArray) (n : Nat) : Prop where
  r : wkR F (nmL N) N.length = 0
  a : wkA F (nmL N) N.length = n
  g : GoodN N
  l : (accN N).length ≤ 1024
theorem Leads.root (F : Fo) : Leads F [] 1 := ⟨by unfold wkR; rfl, rfl, GoodN.nil, by show (accN []).length ≤ 1024; decide⟩
theorem nmL_snoc (N : List ByteArray) (x : ByteArray) : (∀ i, i < N.length → nmL (N ++ [x]) i = nmL N i) ∧ nmL (N ++ [x]) N.length = x := by
  refine ⟨fun i hi => ?_, ?_⟩
  · unfold nmL
    rw [List.getD_eq_getElem?_getD, List.getD_eq_getElem?_getD, List.getElem?_append_left hi]
  · unfold nmL
    rw [List.getD_eq_getElem?_getD, List.getElem?_append_right (Nat.le_refl _)]
    simp
theorem Leads.step {F : Fo} {N : List ByteArray} {d i : Nat} (h : Leads F N d) (hd : F.dr d = true) (hi : i < F.K d) (hq : FUq F) (hn : FNm F) (hok : okN9 N (F.S d i)) : Leads F (N ++ [F.S d i]) (F.N d i).toNat := by
  obtain ⟨h1, h2, h3, h4⟩ := h
  obtain ⟨z1, z2⟩ := wkR_zero h1
  obtain ⟨s1, s2⟩ := nmL_snoc N (F.S d i)
  obtain ⟨c1, c2, c3⟩ := wk_congr (F := F) (nm := nmL (N ++ [F.S d i])) (nm' := nmL N) N.length s1
  have hx := hn d hd i hi
  have ha : wkA F (nmL (N ++ [F.S d i])) N.length = d := c1.trans h2
  have hp : wkP F (nmL (N ++ [F.S d i])) N.length = i := by
    unfold wkP
    rw [ha, s2]
    exact fiN_uq hi (fun a b hab hb => hq d hd a b hab hb)
  have hnE : naE (nmL (N ++ [F.S d i])) (N.length + 1) = 0 := by
    rw [naE_step (c3.trans z1), s2]
    unfold nameE
    rw [if_pos hx]
  have hfE : feE F (nmL (N ++ [F.S d i])) (N.length + 1) = 0 := by
    rw [feE_step (c2.trans z2)]
    unfold wkE
    rw [ha, if_pos hd, hp, if_pos hi]
  refine ⟨?_, ?_, ⟨by simpa using hok.1, fun y hy => ?_⟩, hok.2⟩
  · rw [List.length_append, List.length_singleton]
    exact wkR_ok hnE hfE
  · rw [List.length_append, List.length_singleton, wkA_succ, ha, hp]
  · rcases List.mem_append.1 hy with q | q
    · exact h3.2 y q
    · rw [List.mem_singleton.1 q]; exact hx
theorem srt_mem {N : Nat → Int} {S : Nat → ByteArray} {k : Nat} {e : Lk} (h : e ∈ srt N S k) : ∃ i, i < k ∧ e = (N i, S i) := by
  by_cases hex : ∃ R : List Lk, SoR R ∧ R.Perm (liR N S k)
  · obtain ⟨R, h1, h2⟩ := hex
    rw [← srt_eq h1 h2] at h
    exact liR_mem9 ((h2.mem_iff).1 h)
  · unfold srt at h
    rw [dif_neg hex] at h
    simp at h
theorem ovs_leads {F : Fo} {d : Nat} (hd : F.dr d = true) (hq : FUq F) (hn : FNm F) {g : List ByteArray → Nat → List Nat → List Fd × List Nat} (hg : ∀ N n I, Leads F N n → ∀ p ∈ (g N n I).1, Leads F p.1 p.2) {N : List ByteArray} (hN : Leads F N d) : ∀ (es : List Lk) (I : List Nat), (∀ e ∈ es, ∃ i, i < F.K d ∧ e = (F.N d i, F.S d i)) → ∀ p ∈ (ovs g N es I).1, Leads F p.1 p.2
  | [], I, _, p, hp => by simp [ovs_nil] at hp
  | e :: es, I, he, p, hp => by
    obtain ⟨i, hi, hei⟩ := he e List.mem_cons_self
    by_cases hok : okN9 N e.2
    · rw [ovs_yes hok] at hp
      rcases List.mem_append.1 hp with q | q
      · refine hg _ _ _ ?_ p q
        rw [hei] at hok ⊢
        exact hN.step hd hi hq hn hok
      · exact ovs_leads hd hq hn hg hN es _ (fun e' h' => he e' (List.mem_cons_of_mem _ h')) p q
    · rw [ovs_no hok] at hp
      exact ovs_leads hd hq hn hg hN es _ (fun e' h' => he e' (List.mem_cons_of_mem _ h')) p hp
theorem ov_leads {F : Fo} (hq : FUq F) (hn : FNm F) : ∀ (f : Nat) (N : List ByteArray) (n : Nat) (I : List Nat), Leads F N n → ∀ p ∈ (ov F f N n I).1, Leads F p.1 p.2
  | 0, N, n, I, h, p, hp => by
    simp [ov] at hp
    rw [hp]
    exact h
  | f + 1, N, n, I, h, p, hp => by
    by_cases c : F.dr n = true ∧ n ∉ I
    · rw [ov_in c] at hp
      rcases List.mem_cons.1 hp with q | q
      · rw [q]; exact h
      · exact ovs_leads c.1 hq hn (ov_leads hq hn f) h _ _ (fun e he => srt_mem he) p q
    · rw [ov_out c] at hp
      simp at hp
      rw [hp]
      exact h
theorem allP_leads {F : Fo} (hq : FUq F) (hn : FNm F) (all : Nat) : ∀ p ∈ allP F all, Leads F p.1 p.2 := ov_leads hq hn _ _ _ _ (Leads.root F)
/-- such a path is read as its names -/
theorem Leads.prs {F : Fo} {N : List ByteArray} {n : Nat} (h : Leads F N n) : prs (frmL N) = (N, decide (N = []), 0, 0) := by
  refine prs_frm h.g ?_
  by_cases c : N = []
  · subst c; decide
  · rw [frm_acc c]; exact h.l
end Go.Proofs.YtimjggkdpmgpjaaGreatDoor
