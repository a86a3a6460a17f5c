/- A slice of deeds of the statements' trees as an argument; a slice of texts. -/
import Derived.Test.YtimjggkdpmgpjaaGreatDoorHFiPaths
import Derived.BigQuiet
import Derived.Deep.QuietTactic
import Derived.Handy
import Derived.Deep.Cut
import Derived.Deep.DeepCutAuto
import Derived.Test.YtimjggkdpmgpjaaGreatDoorRows
import Derived.WalkKit
import Derived.ProofKit
import Derived.OpenShut
import Derived.Lib.SmallJoins
import Derived.SizedLaws
import Derived.Deep.Slices
import Derived.Test.YtimjggkdpmgpjaaGreatDoorHGrBuild
import Derived.Test.YtimjggkdpmgpjaaGreatDoorHPaParts
import Derived.Test.YtimjggkdpmgpjaaGreatDoorHPaSplit
import Derived.Carry
import Derived.SliceStrings

namespace Go.Proofs.YtimjggkdpmgpjaaGreatDoor
open Go Go.RowKit Go.Nam
set_option linter.unusedSimpArgs false
set_option linter.unusedVariables false
attribute [local go_sem] st_nil st_fun
theorem BT19.lookupAt {w W : World} {x mf ml mc : Nat} {cp : Option Addr} {r all : Nat} {F : Fo} (h : BT19 w W x mf ml mc cp r all F) {H : Nat → Hd} {D : Nat → Nat → Nat → Nat} (hB : BJ W x mf ml mc cp all F H D) (N : List ByteArray) (n : Nat) (hp : (N, n) ∈ allP F all) (V : World) (hV : Below W.heap.size W V) : Calls Tryz.prog 12 #[.pointer (some ⟨x, 0, none⟩), .string (bsL (frmL N))] V fun e w' => e = .returned (.tuple #[.agg (nfC ((n : Nat) : Int) (H n).k (H n).l (H n).s (H n).t), .int .i64 0]) ∧ Below V.heap.size V w' := by
  have hl : Leads F N n := allP_leads h.uq h.nm all (N, n) hp
  have hin : 1 ≤ n ∧ n ≤ all := by
    have := h.bi.wkIn N.length (wkR_zero hl.r).2
    rwa [hl.a] at this
  refine lookup_ok x (bsL (frmL N)) N (decide (N = [])) 0 (by rw [bsL_data]; exact hl.prs) _ _ _ _ _ _ V fun V2 a c hV2 hn => ?_
  refine named_ok x a N.length c (decide (N = [])) ((n : Nat) : Int) ((n : Nat) : Int) (H n).k (H n).l (H n).s (H n).t (fun q => ?_) V2 (fun V' hV' => ?_) (fun V' hV' => ?_)
  · have e : N = [] := by simpa using q
    subst e
    have e1 : n = 1 := hl.a.symm
    subst e1
    rw [hB.kd 1 hin, if_pos h.bi.d1]
  · have h2 := hV.trans (hV2.mono hV.size)
    have := h.walkN N hl.g.1 V' (h2.trans (hV'.mono h2.size)) a c (hn.below hV')
    rw [wkW_ok hl.r, hl.r, hl.a] at this
    exact this
  · have h2 := hV.trans (hV2.mono hV.size)
    exact (hB.below (h2.trans (hV'.mono h2.size))).getN n hin
/-- the paths of an inode -/
def pthN (I : Int) : List Fd → List ByteArray
  | [] => []
  | x :: l => if ((x.2 : Nat) : Int) = I then bsL (frmL x.1) :: pthN I l else pthN I l
theorem pthN_app (I : Int) : ∀ l m : List Fd, pthN I (l ++ m) = pthN I l ++ pthN I m
  | [], m => rfl
  | x :: l, m => by
    by_cases c : ((x.2 : Nat) : Int) = I
    · simp [pthN, c, pthN_app I l m]
    · simp [pthN, c, pthN_app I l m]
theorem pthN_le (I : Int) : ∀ l : List Fd, (pthN I l).length ≤ l.length
  | [] => Nat.le_refl _
  | x :: l => by
    have := pthN_le I l
    by_cases c : ((x.2 : Nat) : Int) = I
    · simp [pthN, c]; omega
    · simp [pthN, c]; omega
theorem pthN_next (I : Int) (L : List Fd) (j : Nat) (x : Fd) (hj : L[j]? = some x) : pthN I (L.take (j + 1)) = pthN I (L.take j) ++ (if ((x.2 : Nat) : Int) = I then [bsL (frmL x.1)] else []) := by
  rw [List.take_add_one, hj, pthN_app]
  rfl
theorem pthN_at (I : Int) (L : List Fd) (j : Nat) (x : Fd) (hj : L[j]? = some x) (hx : ((x.2 : Nat) : Int) = I) : (pthN I L)[(pthN I (L.take j)).length]? = some (bsL (frmL x.1)) := by
  have h1 : L = L.take j ++ x :: L.drop (j + 1) := by
    have h2 := (List.getElem?_eq_some_iff.1 hj).1
    have h3 := (List.getElem?_eq_some_iff.1 hj).2
    rw [← h3, ← List.drop_eq_getElem_cons h2, List.take_append_drop]
  have h4 : pthN I L = pthN I (L.take j) ++ (bsL (frmL x.1) :: pthN I (L.drop (j + 1))) := by
    conv => lhs; rw [h1]
    rw [pthN_app]
    congr 1
    simp [pthN, hx]
  rw [h4, List.getElem?_append_right (Nat.le_refl _), Nat.sub_self]
  rfl
def pvL (I : Int) (l : List Fd) : List Value := (pthN I l).map Value.string
/-- the slice that grows, and the inode's box -/
def PQ9 (I : Int) (L0 : List Fd) (B bp bi rm : Nat) (j : Nat) (v : Value) (V : World) : Prop := Blk V bp 33 #[v] ∧ V.ownsRow B 9 1 v (pthN I (L0.take j)).length (pvL I (L0.take j)) ∧ Blk V bi 3 #[.int .i64 I] ∧ v.ownBlock ≠ some bp ∧ v.ownBlock ≠ some bi ∧ v.ownBlock ≠ some rm
def ftp (bp bi : Nat) (v : Value) (b : Nat) : Prop := b = bp ∨ b = bi ∨ v.ownBlock = some b
theorem infoStr9 : (Tryz.prog.info? 9).map (fun i => (i.zero, i.size, i.bytes)) = some (some (.string ⟨#[]⟩), 1, 16) := by kernel_rfl
section
variable {I : Int} {L0 : List Fd} {B bp bi rm j : Nat} {v : Value} {V W : World}
theorem PQ9.keep {T : Nat → Prop} (h : PQ9 I L0 B bp bi rm j v V) (ht : Turns T V W) (hT : ∀ b, T b → ¬ ftp bp bi v b) : PQ9 I L0 B bp bi rm j v W :=
  ⟨blk_turn h.1 ht (fun q => hT _ q (.inl rfl)), kown_kept h.2.1 fun k _ hk => ht.block k (h.2.1.lt k hk).2 fun q => hT k q (.inr (.inr hk)), blk_turn h.2.2.1 ht (fun q => hT _ q (.inr (.inl rfl))), h.2.2.2⟩
theorem PQ9.lt (h : PQ9 I L0 B bp bi rm j v V) (b : Nat) (hb : ftp bp bi v b) : b < V.heap.size := by
  rcases hb with rfl | rfl | hb
  · exact h.1.lt
  · exact h.2.2.1.lt
  · exact (h.2.1.lt b hb).2
end
set_option maxRecDepth 100000 in
set_option maxHeartbeats 16000000 in
theorem paths1_any {H : Nat → Hd} {I : Int} {L0 : List Fd} {B bp bi rm : Nat} (hne : bp ≠ bi) (hlen : L0.length ≤ 1000000) (j : Nat) (v : Value) (V : World) (N : List ByteArray) (n : Nat) (hj : L0[j]? = some (N, n)) (hrm : rm < V.heap.size) (hB : B ≤ V.heap.size) (hQ : PQ9 I L0 B bp bi rm j v V) : Calls Tryz.prog 26 (#[.agg (fdC (bsL (frmL N)) ((n : Nat) : Int) (H n).k (H n).l (H n).s (H n).t)] ++ #[.pointer (some ⟨bi, 0, none⟩), .pointer (some ⟨bp, 0, none⟩)]) V fun e w' => e = .returned (.bool true) ∧ ∃ v', PQ9 I L0 B bp bi rm (j + 1) v' w' ∧ Turns (ftp bp bi v) V w' ∧ ∀ b, ftp bp bi v' b → ftp bp bi v b ∨ V.heap.size ≤ b := by
  obtain ⟨i0, hi0, hz0, hz1, hz2⟩ := info_parts infoStr9
  have hjl := (List.getElem?_eq_some_iff.1 hj).1
  have hle := pthN_le I (L0.take j)
  have hlt : (L0.take j).length ≤ 1000000 := by rw [List.length_take]; omega
  have HQ : Hid (PQ9 I L0 B bp bi rm j v V ∧ rm < V.heap.size ∧ B ≤ V.heap.size ∧ bp ≠ bi) := ⟨hQ, hrm, hB, hne⟩
  have HN : Hid (pthN I (L0.take (j + 1)) = pthN I (L0.take j) ++ (if ((n : Nat) : Int) = I then [bsL (frmL N)] else [])) := pthN_next I L0 j (N, n) hj
  have bx : Blk (V.alloc (.cells (fdC (bsL (frmL N)) ((n : Nat) : Int) (H n).k (H n).l (H n).s (H n).t) 42)) V.heap.size 42 (fdC (bsL (frmL N)) ((n : Nat) : Int) (H n).k (H n).l (H n).s (H n).t) := Blk.new _ _ _
  have x0 : (V.alloc (.cells (fdC (bsL (frmL N)) ((n : Nat) : Int) (H n).k (H n).l (H n).s (H n).t) 42)).cell? ⟨V.heap.size, 0, none⟩ = some (.string (bsL (frmL N))) := (bx.cell 0).trans rfl
  have x1 : (V.alloc (.cells (fdC (bsL (frmL N)) ((n : Nat) : Int) (H n).k (H n).l (H n).s (H n).t) 42)).cell? ⟨V.heap.size, 1, none⟩ = some (.int .i64 ((n : Nat) : Int)) := (bx.cell 1).trans rfl
  have hb1 : Below V.heap.size V (V.alloc (.cells (fdC (bsL (frmL N)) ((n : Nat) : Int) (H n).k (H n).l (H n).s (H n).t) 42)) := below_new1 V _
  have h1 : PQ9 I L0 B bp bi rm j v (V.alloc (.cells (fdC (bsL (frmL N)) ((n : Nat) : Int) (H n).k (H n).l (H n).s (H n).t) 42)) := hQ.keep (T := fun _ => False) (Turns.of_below hb1) (fun b q => q.elim)
  obtain ⟨qa, ka, rfl⟩ := kown_slice hQ.2.1
  have c1 := (h1.1.cell 0).trans rfl
  have c2 := (h1.2.2.1.cell 0).trans rfl
  have HB1 : Hid (Below V.heap.size V (V.alloc (.cells (fdC (bsL (frmL N)) ((n : Nat) : Int) (H n).k (H n).l (H n).s (H n).t) 42))) := hb1
  have H1 : Hid (PQ9 I L0 B bp bi rm j (.slice qa (pthN I (L0.take j)).length ka) (V.alloc (.cells (fdC (bsL (frmL N)) ((n : Nat) : Int) (H n).k (H n).l (H n).s (H n).t) 42))) := h1
  clear hQ hrm hB hne bx hb1 h1 hj hjl
  show Calls _ _ #[.agg (fdC (bsL (frmL N)) ((n : Nat) : Int) (H n).k (H n).l (H n).s (H n).t), .pointer (some ⟨bi, 0, none⟩), .pointer (some ⟨bp, 0, none⟩)] _ _
  generalize fdC (bsL (frmL N)) ((n : Nat) : Int) (H n).k (H n).l (H n).s (H n).t = C at *
  generalize bsL (frmL N) = sj at *
  generalize ((n : Nat) : Int) = nj at *
  obtain ⟨m, hm⟩ : ∃ m, m = (pthN I (L0.take j)).length := ⟨_, rfl⟩
  have HM : Hid (m = (pthN I (L0.take j)).length) := hm
  rw [← hm] at hle c1
  have hm9 : m ≤ 1000000 := by omega
  by_cases hI : nj = I
  · have HN2 : Hid (pthN I (L0.take (j + 1)) = pthN I (L0.take j) ++ [sj]) := by show _ = _; rw [HN.out, if_pos hI]
    subst hI
    have HA2 : Hid (PQ9 nj L0 B bp bi rm j (.slice qa m ka) ((V.alloc (.cells C 42)).alloc (.cells #[.string sj] 9))) := by
      have := H1.out.keep (T := fun _ => False) (Turns.of_below (below_new1 _ (.cells #[.string sj] 9))) (fun b q => q.elim)
      rwa [← HM.out] at this
    have HS2 : Hid (B ≤ ((V.alloc (.cells C 42)).alloc (.cells #[.string sj] 9)).heap.size) := by have := HQ.out.2.2.1; show B ≤ _; simp; omega
    have hown2 : ((V.alloc (.cells C 42)).alloc (.cells #[.string sj] 9)).ownsRow B 9 1 (.slice qa m ka) m (pvL nj (L0.take j)) := by
      have := HA2.out.2.1
      rwa [← HM.out] at this
    have HO2 : Hid (((V.alloc (.cells C 42)).alloc (.cells #[.string sj] 9)).ownsRow B 9 1 (.slice qa m ka) m (pvL nj (L0.take j))) := hown2
    have HC2 : Hid (∀ i u, [Value.string sj][i]? = some u → ((V.alloc (.cells C 42)).alloc (.cells #[.string sj] 9)).cell? ((⟨V.heap.size + 1, 0, none⟩ : Addr).add i) = some u) := fun i u hi => by
      rw [Addr.add_mid, Nat.zero_add, (Blk.new1 V (.cells C 42) 9 #[.string sj]).cell i, ← Array.getElem?_toList]
      exact hi
    clear hm hown2
    go_enter Tryz.func26, Tryz.ntmps26
    go_wp2_with (first
      | (at_builtin; refine wpList_append_own_at (by rfl) _ _ 33 (by rfl) B 9 i0 (.string ⟨#[]⟩) 1 16 Tryz.underlying33 hi0 hz0 hz1 hz2 rfl (by decide) _ m _ (by rfl) (by exact HO2.out) ⟨V.heap.size + 1, 0, none⟩ 1 1 [.string sj] (by rfl) (by rfl) (by exact HC2.out) (fun x hx => by simp at hx; subst hx; rfl) (by unfold maxLen; omega) (by omega) (by exact HS2.out) (fun v2 U2 ho2 hg2 ha2 => ?_); obtain ⟨q2, k2, rfl⟩ := kown_slice ho2; have hbU : Blk U2 bp 33 #[.slice qa m ka] := grown_blk HA2.out.1 hg2 HA2.out.2.2.2.1; have cU := (hbU.cell 0).trans rfl; have fU := hbU.frozen 0; simp only [Act.put, List.setIfInBounds_toArray, List.set_cons_zero, List.set_cons_succ])
      | fail)
    go_ret
    have hb2 : Below V.heap.size V ((V.alloc (.cells C 42)).alloc (.cells #[.string sj] 9)) := below_new2 _ _ _
    have tg : Turns (ftp bp bi (.slice qa m ka)) ((V.alloc (.cells C 42)).alloc (.cells #[.string sj] 9)) U2 := by
      obtain ⟨g1, g2, g3, g4, g5⟩ := hg2
      exact ⟨g1, g2, g3, g4, fun b hb hn => g5 b hb fun q => hn (.inr (.inr q.symm))⟩
    have tc : Turns (fun z => z = bp) U2 (U2.setCell ⟨bp, 0, none⟩ (.slice q2 (m + 1) k2)) := Turns.cell _ _ _ _ rfl
    have hne2 : ∀ b, b < V.heap.size → (Value.slice qa m ka).ownBlock ≠ some b → (Value.slice q2 (m + 1) k2).ownBlock ≠ some b := fun b hb hn q => by
      rcases ha2 with e | e
      · exact hn (e.symm.trans q)
      · rw [e] at q
        injection q with q
        have q2 : ((V.alloc (.cells C 42)).alloc (.cells #[.string sj] 9)).heap.size = b := q
        simp at q2
        omega
    have n1 := hne2 bp HQ.out.1.1.lt HA2.out.2.2.2.1
    have n2 := hne2 bi HQ.out.1.2.2.1.lt HA2.out.2.2.2.2.1
    have n3 := hne2 rm HQ.out.2.1 HA2.out.2.2.2.2.2
    have hbi : Blk U2 bi 3 #[.int .i64 nj] := grown_blk HA2.out.2.2.1 hg2 HA2.out.2.2.2.2.1
    rw [← HM.out]
    refine ⟨rfl, _, ⟨blk_setc hbU _, ?_, hbi.put_other 0 _ (fun q => HQ.out.2.2.2 q.symm), n1, n2, n3⟩, ((Turns.of_below hb2).tr tg).tr (tc.mono fun b q => .inl q), fun b q => ?_⟩
    · have e1 : (pthN nj (L0.take (j + 1))).length = m + 1 := by rw [HN2.out, List.length_append, ← HM.out]; rfl
      have e2 : pvL nj (L0.take (j + 1)) = pvL nj (L0.take j) ++ [.string sj] := by unfold pvL; rw [HN2.out, List.map_append]; rfl
      rw [e1, e2]
      exact kown_kept ho2 fun k _ hk => tc.block k (ho2.lt k hk).2 fun q => n1 (by rw [hk, q])
    · rcases q with q | q | q
      · exact .inl (.inl q)
      · exact .inl (.inr (.inl q))
      · rcases ha2 with e | e
        · exact .inl (.inr (.inr (e.symm.trans q)))
        · rw [e] at q
          injection q with q
          have q2 : ((V.alloc (.cells C 42)).alloc (.cells #[.string sj] 9)).heap.size = b := q
          have := hb2.size
          exact .inr (by omega)
  · have HN2 : Hid (pthN I (L0.take (j + 1)) = pthN I (L0.take j)) := by show _ = _; rw [HN.out, if_neg hI, List.append_nil]
    clear hm
    go_enter Tryz.func26, Tryz.ntmps26
    go_wp2_with fail
    go_ret
    refine ⟨rfl, _, ⟨H1.out.1, ?_, H1.out.2.2⟩, Turns.of_below HB1.out, fun b q => .inl q⟩
    unfold pvL
    rw [HN2.out]
    exact H1.out.2.1
theorem paths_oc {H : Nat → Hd} {I : Int} {L0 : List Fd} {bi x mf ml mc : Nat} (hlen : L0.length ≤ 1000000) (hx : x < bi ∧ mf < bi ∧ ml < bi ∧ mc < bi) : OC 26 #[.pointer (some ⟨bi, 0, none⟩), .pointer (some ⟨bi + 1, 0, none⟩)] L0 H (fun _ => true) (ftp (bi + 1) bi) (PQ9 I L0 bi (bi + 1) bi (bi + 2)) (bi + 2) x mf ml mc where
  call := fun j s V N n hj hrm hq => paths1_any (by omega) hlen j s V N n hj hrm (Nat.le_of_lt hq.2.2.1.lt) hq
  keep := fun j s V V' T hq ht hT => hq.keep ht hT
  lt := fun j s V b hq hb => hq.lt b hb
  ap := fun j s V hq => by
    have hl : ∀ y, y < bi → ¬ ftp (bi + 1) bi s y := fun y hy q => by
      rcases q with q | q | q
      · omega
      · omega
      · have := (hq.2.1.lt y q).1; omega
    refine ⟨fun q => ?_, hl _ hx.1, hl _ hx.2.1, hl _ hx.2.2.1, hl _ hx.2.2.2⟩
    rcases q with q | q | q
    · omega
    · omega
    · exact hq.2.2.2.2.2 q
set_option maxRecDepth 100000 in
set_option maxHeartbeats 16000000 in
theorem paths_any {x mf ml mc : Nat} {cp : Option Addr} {all : Nat} {F : Fo} {H : Nat → Hd} {D : Nat → Nat → Nat → Nat} (hK : ∀ d, F.dr d = true → F.K d ≤ 16384 ∧ d ≤ all) (hNm : ∀ d, F.dr d = true → ∀ i, i < F.K d → isName (F.S d i).data.toList = true) (I : Int) (w : World) (hB : BJ w x mf ml mc cp all F H D) :
    Calls Tryz.prog 10 #[.pointer (some ⟨x, 0, none⟩), .int .i64 I] w fun e w' => ∃ v, e = .returned (.tuple #[v, .int .i64 0]) ∧ w'.ownsRow w.heap.size 9 1 v (pthN I (allP F all)).length (pvL I (allP F all)) ∧ Below w.heap.size w w' := by
  have hlen := allP_len hK hB.al.2
  have hl := hB.im.lts
  have hb0 : Below w.heap.size w ((w.alloc (.cells #[.int .i64 I] 3)).alloc (.cells #[.slice none 0 0] 33)) := below_new2 w _ _
  have hq0 : PQ9 I (allP F all) w.heap.size (w.heap.size + 1) w.heap.size (w.heap.size + 2) 0 (.slice none 0 0) ((w.alloc (.cells #[.int .i64 I] 3)).alloc (.cells #[.slice none 0 0] 33)) := ⟨Blk.new1 _ _ _ _, ⟨by simp [pvL, pthN], .inl ⟨rfl, rfl⟩⟩, (Blk.new _ _ _).alloc _, by simp [Value.ownBlock], by simp [Value.ownBlock], by simp [Value.ownBlock]⟩
  have hsz : ((w.alloc (.cells #[.int .i64 I] 3)).alloc (.cells #[.slice none 0 0] 33)).heap.size = w.heap.size + 2 := by simp
  have hoc : OC 26 #[.pointer (some ⟨w.heap.size, 0, none⟩), .pointer (some ⟨w.heap.size + 1, 0, none⟩)] (allP F all) H (fun _ => true) (ftp (w.heap.size + 1) w.heap.size) (PQ9 I (allP F all) w.heap.size (w.heap.size + 1) w.heap.size (w.heap.size + 2)) ((w.alloc (.cells #[.int .i64 I] 3)).alloc (.cells #[.slice none 0 0] 33)).heap.size x mf ml mc := by
    rw [hsz]
    exact paths_oc hlen ⟨hl.1, hl.2.1, hl.2.2.1, hl.2.2.2⟩
  have HEA := each_any ((w.alloc (.cells #[.int .i64 I] 3)).alloc (.cells #[.slice none 0 0] 33)) (fun args w => rfl) hoc rfl hK hNm (.slice none 0 0) (hB.below hb0) hq0
  have HB0 : Hid (Below w.heap.size w ((w.alloc (.cells #[.int .i64 I] 3)).alloc (.cells #[.slice none 0 0] 33))) := hb0
  generalize allP F all = LL at *
  clear hlen hl hb0 hq0 hoc hsz
  go_enter Tryz.func10, Tryz.ntmps10
  go_wp2_with fail
  refine HEA.mono ?_
  rintro e w2 ⟨rfl, s', hres, ht, hf⟩
  have hq : PQ9 I LL w.heap.size (w.heap.size + 1) w.heap.size (w.heap.size + 2) LL.length s' w2 := by
    rcases hres with ⟨_, h⟩ | ⟨q, _, _, h, _⟩
    · exact h
    · cases h
  have cv := (hq.1.cell 0).trans rfl
  have HE : Hid (w2.ownsRow w.heap.size 9 1 s' (pthN I LL).length (pvL I LL) ∧ Below w.heap.size w w2) := ⟨by have h := hq.2.1; rwa [List.take_length] at h, HB0.out.trans (ht.below HB0.out.size (fun b q => by
    rcases q with q | q | q
    · omega
    · omega
    · cases q))⟩
  clear hres ht hf hq HEA
  go_wp2_with fail
  go_ret2
  exact ⟨_, rfl, HE.out.1, HE.out.2⟩
end Go.Proofs.YtimjggkdpmgpjaaGreatDoor

namespace Go.Proofs.YtimjggkdpmgpjaaGreatDoor
open Go Go.RowKit Go.Nam
set_option linter.unusedSimpArgs false
set_option linter.unusedVariables false
/-- texts at an address -/
def IsTx (w : World) (a : Option Addr) (l : List ByteArray) : Prop := ∀ j s, l[j]? = some s → ∃ g, a = some ⟨g, 0, none⟩ ∧ g < w.heap.size ∧ w.cell? ⟨g, j, none⟩ = some (.string s)
theorem IsTx.below {w w' : World} {a : Option Addr} {l : List ByteArray} (h : IsTx w a l) (hb : Below w.heap.size w w') : IsTx w' a l := fun j s hj => by
  obtain ⟨g, h1, h2, h3⟩ := h j s hj
  exact ⟨g, h1, Nat.lt_of_lt_of_le h2 hb.size, (hb.cell (p := ⟨g, j, none⟩) h2).trans h3⟩
theorem own_tx {w : World} {B e n c : Nat} {a : Option Addr} {l : List ByteArray} (hn : n = l.length) (h : w.ownsRow B e 1 (.slice a n c) n (l.map Value.string)) : IsTx w a l := fun j s hj => by
  have hl := (List.getElem?_eq_some_iff.1 hj).1
  obtain ⟨g, cap, e1, _, e3⟩ := kown_form h (by omega)
  injection e1 with e1 _ _
  subst e1
  refine ⟨g, rfl, e3, ?_⟩
  have := own_from h j (.string s) (by rw [List.getElem?_map, hj]; rfl)
  rwa [Addr.add_mid, Nat.zero_add] at this
theorem IsTx.drew {w : World} {a : Option Addr} {l : List ByteArray} (h : IsTx w a l) (q : Nat) : IsTx (w.drewN q) a l := h
theorem eq_nf (n k l z : Int) (st : Nat) (w : World) : (Op.equalIn 10000 40 (.agg #[.int .i64 n, .int .i64 k, .int .i64 l, .int .i64 z, .int .u64 ((st : Nat) : Int)]) (.agg #[.int .i64 n, .int .i64 k, .int .i64 l, .int .i64 z, .int .u64 ((st : Nat) : Int)])).run Tryz.prog w = .ok true w := by
  have h1 : ∀ (d : Nat) (x y : Int), (Op.equalIn (d + 1) 3 (.int .i64 x) (.int .i64 y)).run Tryz.prog w = .ok (x == y) w := fun d x y => by simp [Op.equalIn, run_underlying Tryz.underlying3]
  have h2 : ∀ (d : Nat) (x y : Int), (Op.equalIn (d + 1) 38 (.int .u64 x) (.int .u64 y)).run Tryz.prog w = .ok (x == y) w := fun d x y => by simp [Op.equalIn, run_underlying Tryz.underlying38]
  have hu : Tryz.prog.underlying 40 = some (.struct (Tryz.prog.fieldsOf 40)) := by kernel_rfl
  have hp : Tryz.prog.stoodInHeld 40 = false := by kernel_rfl
  have hf : (Tryz.prog.fieldsOf 40).toList.map (fun f => (f.name == "_", f.type, f.offset)) = [(false, 3, 0), (false, 3, 1), (false, 3, 2), (false, 3, 3), (false, 38, 4)] := by kernel_rfl
  have p0 : (part 3 #[.int .i64 n, .int .i64 k, .int .i64 l, .int .i64 z, .int .u64 ((st : Nat) : Int)] 0).run Tryz.prog w = .ok (.int .i64 n) w := by simp [part, isAgg, run_underlying Tryz.underlying3]
  have p1 : (part 3 #[.int .i64 n, .int .i64 k, .int .i64 l, .int .i64 z, .int .u64 ((st : Nat) : Int)] 1).run Tryz.prog w = .ok (.int .i64 k) w := by simp [part, isAgg, run_underlying Tryz.underlying3]
  have p2 : (part 3 #[.int .i64 n, .int .i64 k, .int .i64 l, .int .i64 z, .int .u64 ((st : Nat) : Int)] 2).run Tryz.prog w = .ok (.int .i64 l) w := by simp [part, isAgg, run_underlying Tryz.underlying3]
  have p3 : (part 3 #[.int .i64 n, .int .i64 k, .int .i64 l, .int .i64 z, .int .u64 ((st : Nat) : Int)] 3).run Tryz.prog w = .ok (.int .i64 z) w := by simp [part, isAgg, run_underlying Tryz.underlying3]
  have p4 : (part 38 #[.int .i64 n, .int .i64 k, .int .i64 l, .int .i64 z, .int .u64 ((st : Nat) : Int)] 4).run Tryz.prog w = .ok (.int .u64 ((st : Nat) : Int)) w := by simp [part, isAgg, run_underlying Tryz.underlying38]
  have := run_eq_five (d := 9999) hu hp hf p0 p0 p1 p1 p2 p2 p3 p3 p4 p4 (h1 9998 _ _) (h1 9998 _ _) (h1 9998 _ _) (h1 9998 _ _) (h2 9998 _ _)
  simpa using this
theorem yields_load_arr {P : Program} {ops : Array Oper} {S : World → Prop} {op : Oper} {a : Act} (hw : Region.wanted op (yielded ops a.tmps) = true) (ty : TypeId) (x : Operand) (ho : op.op = .load ty x)
    (b o : Nat) (hx : a.eval x = .pointer (some ⟨b, o, none⟩)) (cs : Array Value) (d : TypeDesc) (hS : ∀ w, S w → w.rangeAt b o cs.toList)
    (hu : P.underlying ty = some d) (hd : d.isRow = true) (hi : (P.info? ty).map (·.size) = some cs.size) : YieldsIf P ops S op (.agg cs) a := by
  have := yieldsIf_load_mid (P := P) (ops := ops) (S := S) (op := op) (a := a) hw ty x ho b o hx cs.toList d hS hu hd (hi.trans (by simp))
  simpa using this
theorem blk_rng {w : World} {b t : Nat} {cs : Array Value} (h : Blk w b t cs) : w.rangeAt b 0 cs.toList := fun j v hv => by
  rw [Nat.zero_add, h.cell, ← Array.getElem?_toList]
  exact hv
/-- what stands in FindAll's loop -/
structure FA (w w3 W : World) (x : Nat) (H : Nat → Hd) (a3 a4 a5 : Option Addr) (I : Int) (L : List Fd) : Prop where
  fi : IsFi W H a3 L
  tx : IsTx W a4 (pthN I L)
  rd : IsRd W a5 L
  bl : Below w.heap.size w W
  b3 : Below w3.heap.size w3 W
theorem FA.below {w w3 W V : World} {x : Nat} {H : Nat → Hd} {a3 a4 a5 : Option Addr} {I : Int} {L : List Fd} (h : FA w w3 W x H a3 a4 a5 I L) (hb : Below W.heap.size W V) : FA w w3 V x H a3 a4 a5 I L :=
  ⟨h.fi.below hb, h.tx.below hb, h.rd.below hb, h.bl.trans (hb.mono h.bl.size), h.b3.trans (hb.mono h.b3.size)⟩
set_option maxRecDepth 100000 in
set_option maxHeartbeats 32000000 in
theorem findAllLaw (a : Option Addr) (n c : Nat) (hn : n ≤ 9223372036854775807) (X : Nat → A19) (hX : ∀ i, i < n → (X i).ok) (I : Int) (w : World) (hI : IsA19 w a n X) :
    Calls Tryz.prog 3 #[.slice a n c, .int .i64 I] w fun e w' => e = .returned (.bool true) ∧ Below w.heap.size w w' := by
  have HBT := built19_any a n c hn X hX w hI
  have HAW : Hid (∀ V : World, Calls Tryz.prog 8 #[] V fun e w' => e = .returned (.bool true) ∧ Below V.heap.size V w') := awake19_any
  have hzf := zero_nf
  clear hX hI
  go_enter Tryz.func3, Tryz.ntmps3
  go_wp2_with fail
  refine HBT.mono ?_
  rintro e w1 ⟨x, mf, ml, mc, cp, r, all, F, rfl, hT⟩
  have HT1 : Hid (BT19 w w1 x mf ml mc cp r all F) := hT
  clear HBT hT
  go_wp2_with fail
  refine (HAW.out _).mono ?_
  rintro e w3 ⟨rfl, hb3⟩
  have hT3 := HT1.out.below hb3
  obtain ⟨H, D, hBJ⟩ := hT3.bi.fix
  have hK : ∀ d, F.dr d = true → F.K d ≤ 16384 ∧ d ≤ all := fun d hd => ⟨hT3.bi.kle hd, (hBJ.dm d hd).2⟩
  have HALL := all_any hK hT3.nm w3 hBJ
  have HLK : Hid (∀ V, Below w3.heap.size w3 V → ∀ N n, (N, n) ∈ allP F all → Calls Tryz.prog 12 #[.pointer (some ⟨x, 0, none⟩), .string (bsL (frmL N))] V fun e w' => e = .returned (.tuple #[.agg (nfC ((n : Nat) : Int) (H n).k (H n).l (H n).s (H n).t), .int .i64 0]) ∧ Below V.heap.size V w') := fun V hV N n hp => hT3.lookupAt hBJ N n hp V hV
  have HPT : Hid (∀ V, Below w3.heap.size w3 V → Calls Tryz.prog 10 #[.pointer (some ⟨x, 0, none⟩), .int .i64 I] V fun e w' => ∃ v, e = .returned (.tuple #[v, .int .i64 0]) ∧ w'.ownsRow V.heap.size 9 1 v (pthN I (allP F all)).length (pvL I (allP F all)) ∧ Below V.heap.size V w') := fun V hV => paths_any hK hT3.nm I V (hBJ.below hV)
  have HRA : Hid (∀ V, Below w3.heap.size w3 V → Calls Tryz.prog 11 #[.map (some r)] V fun e w' => ∃ a c, e = .returned (.slice a (allP F all).length c) ∧ IsRd w' a (allP F all) ∧ Below V.heap.size V w') := fun V hV => (hT3.below hV).allR
  have hlen := hT3.allLen
  have HB3 : Hid (Below w.heap.size w w3) := hT3.bl
  generalize allP F all = L at *
  clear hT3 hBJ hK hb3 HT1 HAW
  go_wp2_with fail
  refine HALL.mono ?_
  rintro e w4 ⟨v4, rfl, hown4, hb4⟩
  obtain ⟨a3, c3, rfl⟩ := kown_slice hown4
  have HF4 : Hid (IsFi w4 H a3 L ∧ Below w3.heap.size w3 w4) := ⟨own_fi rfl hown4, hb4⟩
  have HP2 := HPT.out w4 hb4
  clear hown4 hb4 HALL HPT
  go_wp2_with fail
  refine HP2.mono ?_
  rintro e w5 ⟨v5, rfl, hown5, hb5⟩
  obtain ⟨a4, c4, rfl⟩ := kown_slice hown5
  have HF5 : Hid (IsFi w5 H a3 L ∧ IsTx w5 a4 (pthN I L) ∧ Below w3.heap.size w3 w5) := ⟨HF4.out.1.below hb5, own_tx rfl hown5, HF4.out.2.trans (hb5.mono HF4.out.2.size)⟩
  have HR2 := HRA.out w5 HF5.out.2.2
  have hpl := pthN_le I L
  clear hown5 hb5 HP2 HRA HF4
  go_wp2_with fail
  refine HR2.mono ?_
  rintro e w6 ⟨a5, c5, rfl, hrd, hb6⟩
  have HFA : Hid (FA w w3 w6 x H a3 a4 a5 I L) := ⟨HF5.out.1.below hb6, HF5.out.2.1.below hb6, hrd, HB3.out.trans ((HF5.out.2.2.trans (hb6.mono HF5.out.2.2.size)).mono HB3.out.size), HF5.out.2.2.trans (hb6.mono HF5.out.2.2.size)⟩
  have hnn : ((L.length : Int) != (L.length : Int)) = false := by simp
  have hl1 : (L.length : Int) ≤ 1000000 := by omega
  obtain ⟨PL, hPL⟩ : ∃ PL, PL = (pthN I L).length := ⟨_, rfl⟩
  have HPL : Hid (PL = (pthN I L).length ∧ L.length ≤ 1000000) := ⟨hPL, hlen⟩
  rw [← hPL] at hpl ⊢
  have hl2 : (PL : Int) ≤ 1000000 := by omega
  clear hrd hb6 HF5 HB3 HR2 hPL hlen hpl
  go_wp2_with fail
  clear hnn
  go_loopw [13, 14] (fun v13 v14 wr => Hid (∃ j : Nat, j ≤ L.length ∧ v14 = .int .i64 (j : Int) ∧ v13 = .int .i64 (((pthN I (L.take j)).length : Nat) : Int) ∧ FA w w3 wr x H a3 a4 a5 I L)) (fun _ v14 _ => L.length - (intOf v14).toNat)
  case atStart => exact ⟨0, Nat.zero_le _, rfl, rfl, HFA.out⟩
  case round =>
    obtain ⟨j, hj, rfl, rfl, hFA⟩ := Hid.out hrel
    clear hrel HFA
    have HF : Hid (FA w w3 wr x H a3 a4 a5 I L) := hFA
    clear hFA
    by_cases hjl : j < L.length
    · have j1 : (j : Int) < (L.length : Int) := by omega
      obtain ⟨⟨N, m⟩, hy⟩ : ∃ y, L[j]? = some y := ⟨_, List.getElem?_eq_getElem hjl⟩
      have HY : Hid (L[j]? = some (N, m) ∧ j < L.length) := ⟨hy, hjl⟩
      obtain ⟨g3, rfl, _, f3⟩ := HF.out.fi j _ hy
      obtain ⟨g5, rfl, _, f5, f6⟩ := HF.out.rd j _ hy
      have f30 := f3 0 (.string (bsL (frmL N))) rfl
      have f31 := f3 1 (.int .i64 ((m : Nat) : Int)) rfl
      rw [Nat.add_zero] at f30
      have d1 : ∀ q, (wr.drewN q).cell? ⟨g3, j * 6, none⟩ = some (.string (bsL (frmL N))) := fun _ => f30
      have d2 : ∀ q, (wr.drewN q).cell? ⟨g3, j * 6 + 1, none⟩ = some (.int .i64 ((m : Nat) : Int)) := fun _ => f31
      have d3 : ∀ q, (wr.drewN q).cell? ⟨g5, j * 2, none⟩ = some (.string (bsL (frmL N))) := fun _ => f5
      have d4 : ∀ q, (wr.drewN q).cell? ⟨g5, j * 2 + 1, none⟩ = some (.int .i64 ((m : Nat) : Int)) := fun _ => f6
      have HL2 : Hid (∀ q, Calls Tryz.prog 12 #[.pointer (some ⟨x, 0, none⟩), .string (bsL (frmL N))] (wr.drewN q) fun e w' => e = .returned (.tuple #[.agg (nfC ((m : Nat) : Int) (H m).k (H m).l (H m).s (H m).t), .int .i64 0]) ∧ Below (wr.drewN q).heap.size (wr.drewN q) w') := fun q => HLK.out _ (below_drewN HF.out.b3 q) N m (List.mem_of_getElem? hy)
      have HFq : Hid (∀ q, FA w w3 (wr.drewN q) x H (some ⟨g3, 0, none⟩) a4 (some ⟨g5, 0, none⟩) I L) := fun q => HF.out.below (below_drewN (Below.refl _ _) q)
      clear f3 f5 f6 f30 f31 hy hjl hj HF
      obtain ⟨sj, hsj⟩ : ∃ sj, sj = bsL (frmL N) := ⟨_, rfl⟩
      have HSJ : Hid (sj = bsL (frmL N)) := hsj
      rw [← hsj] at d1 d3 HL2
      clear hsj
      obtain ⟨mi, hmi⟩ : ∃ mi : Int, mi = ((m : Nat) : Int) := ⟨_, rfl⟩
      have HMI : Hid (mi = ((m : Nat) : Int)) := hmi
      rw [← hmi] at d2 d4 HL2
      clear hmi
      have hq : (sj.toList == sj.toList) = true := by simp
      have hqm : (mi != mi) = false := by simp
      go_wp2_with fail
      go_quiet (fail)
      have d1' := d1 nq
      have HL3 := HL2.out nq
      have HF1 : Hid (FA w w3 (wr.drewN nq) x H (some ⟨g3, 0, none⟩) a4 (some ⟨g5, 0, none⟩) I L) := HFq.out nq
      generalize wr.drewN nq = wq at *
      obtain ⟨C5, hC5⟩ : ∃ C5, C5 = nfC mi (H m).k (H m).l (H m).s (H m).t := ⟨_, rfl⟩
      have HC5 : Hid (C5 = nfC mi (H m).k (H m).l (H m).s (H m).t) := hC5
      have hs5 : C5.size = 5 := by rw [hC5]; rfl
      have ha5 : C5.all (·.oneCell') = true := by rw [hC5]; exact nf_all _ _ _ _ _
      have heq : ∀ W, (Op.equalIn 10000 40 (.agg C5) (.agg C5)).run Tryz.prog W = .ok true W := fun W => by rw [HC5.out]; exact eq_nf _ _ _ _ _ W
      rw [← hC5] at HL3
      clear hC5 d1 d2 d3 d4 HL2 HFq
      go_wp2_with fail
      refine HL3.mono ?_
      rintro e w7 ⟨rfl, hb7⟩
      have u1 : Blk (w7.alloc (.cells nf0 40)) w7.heap.size 40 nf0 := Blk.new _ _ _
      have u2 := u1.set C5
      have hb8 : Below wq.heap.size wq ((w7.alloc (.cells nf0 40)).setRow w7.heap.size C5) := below_setRow (hb7.alloc hb7.size _) hb7.size _
      have HF8 : Hid (FA w w3 ((w7.alloc (.cells nf0 40)).setRow w7.heap.size C5) x H (some ⟨g3, 0, none⟩) a4 (some ⟨g5, 0, none⟩) I L ∧ Blk ((w7.alloc (.cells nf0 40)).setRow w7.heap.size C5) w7.heap.size 40 C5) := ⟨HF1.out.below hb8, u2⟩
      clear hb7 hb8 HF1 HL3 d1' u2
      go_wp2_with (first | (refine wpList_store_row (by rfl) 40 _ _ (by rfl) (w7.heap.size) C5 (by rfl) (by rfl) 40 (nf0) (by exact u1) (size_nf.trans (by rw [hs5])) (by rw [hs5]; rfl) (by exact ha5) ?_; simp only [Act.put, List.setIfInBounds_toArray, List.set_cons_zero, List.set_cons_succ]) | fail)
      generalize ((w7.alloc (.cells nf0 40)).setRow w7.heap.size C5) = w8 at *
      generalize w7.heap.size = bx at *
      clear u1
      obtain ⟨g3', e3, _, f3⟩ := HF8.out.1.fi j _ HY.out.1
      obtain ⟨g5', e5, _, f5, f6⟩ := HF8.out.1.rd j _ HY.out.1
      injection e3 with e3
      injection e3 with e3
      injection e5 with e5
      injection e5 with e5
      subst e3 e5
      have hr1 : w8.rangeAt bx 0 C5.toList := blk_rng HF8.out.2
      have hr2 : w8.rangeAt g3 (j * 6 + 1) C5.toList := fun i v hv => by
        rw [show j * 6 + 1 + i = j * 6 + (i + 1) by omega]
        refine f3 (i + 1) v ?_
        rw [HC5.out, HMI.out, Array.getElem?_toList] at hv
        show (fdC _ _ _ _ _ _)[i + 1]? = some v
        rw [← hv]
        unfold fdC nfC
        match i with
        | 0 => rfl
        | 1 => rfl
        | 2 => rfl
        | 3 => rfl
        | 4 => rfl
        | i + 5 => simp
      have e1 : w8.cell? ⟨g3, j * 6 + 1, none⟩ = some (.int .i64 mi) := by rw [HMI.out]; exact f3 1 _ rfl
      have e2 : w8.cell? ⟨g3, j * 6 + 1 + 1, none⟩ = some (.int .i64 (H m).k) := by rw [show j * 6 + 1 + 1 = j * 6 + 2 by omega]; exact f3 2 _ rfl
      have e3 : w8.cell? ⟨g3, j * 6 + 1 + 2, none⟩ = some (.int .i64 (H m).l) := by rw [show j * 6 + 1 + 2 = j * 6 + 3 by omega]; exact f3 3 _ rfl
      have e4 : w8.cell? ⟨g3, j * 6 + 1 + 3, none⟩ = some (.int .i64 (H m).s) := by rw [show j * 6 + 1 + 3 = j * 6 + 4 by omega]; exact f3 4 _ rfl
      have e5 : w8.cell? ⟨g3, j * 6 + 1 + 4, none⟩ = some (.int .u64 (((H m).t : Nat) : Int)) := by rw [show j * 6 + 1 + 4 = j * 6 + 5 by omega]; exact f3 5 _ rfl
      have heq2 : ∀ W, (Op.equalIn 10000 40 (.agg C5) (.agg #[.int .i64 mi, .int .i64 (H m).k, .int .i64 (H m).l, .int .i64 (H m).s, .int .u64 (((H m).t : Nat) : Int)])).run Tryz.prog W = .ok true W := fun W => by rw [HC5.out]; exact eq_nf _ _ _ _ _ W
      have HS : Hid (w8.rangeAt bx 0 C5.toList ∧ w8.rangeAt g3 (j * 6 + 1) C5.toList) := ⟨hr1, hr2⟩
      have HC8 : Hid (w8.cell? ⟨g5, j * 2, none⟩ = some (.string (bsL (frmL N))) ∧ w8.cell? ⟨g5, j * 2 + 1, none⟩ = some (.int .i64 ((m : Nat) : Int))) := ⟨f5, f6⟩
      generalize (H m).k = k9 at *
      generalize (H m).l = l9 at *
      generalize (H m).s = s9 at *
      generalize (((H m).t : Nat) : Int) = t9 at *
      clear hr1 hr2 f3 f5 f6 heq
      refine wp_region_partsS (fun W => W.rangeAt bx 0 C5.toList ∧ W.rangeAt g3 (j * 6 + 1) C5.toList) [([0], 1, false), ([2, 4, 5, 6], 3, true), ([], 7, false), ([], 8, false), ([], 9, false)] [10] [] (by kernel_rfl) (by kernel_rfl) HS.out (partsI_force ?_)
      simp only [List.cons_append, List.nil_append, List.append_nil, List.filterMap_cons, List.filterMap_nil, List.getElem?_toArray, List.getElem?_cons_zero, List.getElem?_cons_succ]
      go_wp2_with fail
      refine ⟨rfl, HS.out, partsI_yield ?_⟩
      simp only [List.cons_append, List.nil_append, List.append_nil, List.filterMap_cons, List.filterMap_nil, List.getElem?_toArray, List.getElem?_cons_zero, List.getElem?_cons_succ]
      go_wp2_with fail
      refine ⟨rfl, _, .agg C5, rfl, yields_load_arr (by rfl) 40 _ (by rfl) bx 0 (by rfl) C5 _ (fun W hW => hW.1) Tryz.underlying40 rfl (size_nf.trans (by rw [hs5])), partsI_force ?_⟩
      simp only [Act.put, List.setIfInBounds_toArray, List.set_cons_zero, List.set_cons_succ]
      simp only [List.cons_append, List.nil_append, List.append_nil, List.filterMap_cons, List.filterMap_nil, List.getElem?_toArray, List.getElem?_cons_zero, List.getElem?_cons_succ]
      go_wp2_with fail
      refine ⟨rfl, HS.out, partsI_force ?_⟩
      simp only [List.cons_append, List.nil_append, List.append_nil, List.filterMap_cons, List.filterMap_nil, List.getElem?_toArray, List.getElem?_cons_zero, List.getElem?_cons_succ]
      go_wp2_with fail
      refine ⟨rfl, HS.out, partsI_force ?_⟩
      simp only [List.cons_append, List.nil_append, List.append_nil, List.filterMap_cons, List.filterMap_nil, List.getElem?_toArray, List.getElem?_cons_zero, List.getElem?_cons_succ]
      go_wp2_with fail
      refine ⟨rfl, HS.out, partsI_last ?_⟩
      simp only [List.cons_append, List.nil_append, List.append_nil, List.filterMap_cons, List.filterMap_nil, List.getElem?_toArray, List.getElem?_cons_zero, List.getElem?_cons_succ]
      go_wp2_with fail
      refine ⟨rfl, ?_⟩
      have HF9 : Hid (∀ q, FA w w3 (w8.drew.drewN q) x H (some ⟨g3, 0, none⟩) a4 (some ⟨g5, 0, none⟩) I L) := fun q => HF8.out.1.below (below_drewN (Below.drew (Below.refl _ _)) q)
      have d3 : ∀ q, (w8.drew.drewN q).cell? ⟨g5, j * 2, none⟩ = some (.string sj) := fun _ => by rw [HSJ.out]; exact HC8.out.1
      have d4 : ∀ q, (w8.drew.drewN q).cell? ⟨g5, j * 2 + 1, none⟩ = some (.int .i64 mi) := fun _ => by rw [HMI.out]; exact HC8.out.2
      obtain ⟨nn, hnn⟩ : ∃ nn, nn = (pthN I (L.take j)).length := ⟨_, rfl⟩
      have HNN : Hid (nn = (pthN I (L.take j)).length) := hnn
      have hn9 : nn ≤ 1000000 := by have h1 := pthN_le I (L.take j); rw [List.length_take] at h1; have := HPL.out.2; omega
      have HNX : Hid ((pthN I (L.take (j + 1))).length = nn + (if mi = I then 1 else 0)) := by
        show _ = _
        rw [pthN_next I L j (N, m) HY.out.1, List.length_append, ← hnn, ← HMI.out]
        split <;> rfl
      have HTX : Hid (mi = I → ∃ g4, a4 = some ⟨g4, 0, none⟩ ∧ nn < PL ∧ ∀ q, (w8.drew.drewN q).cell? ⟨g4, nn, none⟩ = some (.string sj)) := fun q => by
        have h1 := pthN_at I L j (N, m) HY.out.1 (by rw [← HMI.out]; exact q)
        rw [← hnn] at h1
        obtain ⟨g4, h2, _, h3⟩ := HF8.out.1.tx nn _ h1
        refine ⟨g4, h2, ?_, fun _ => by rw [HSJ.out]; exact h3⟩
        have := (List.getElem?_eq_some_iff.1 h1).1
        rw [HPL.out.1]
        exact this
      rw [← hnn]
      clear e1 e2 e3 e4 e5 heq2 hnn HS HC8 HF8
      generalize w8.drew = w9 at *
      have d4' := d4 0
      rw [World.drewN_zero] at d4'
      by_cases hI : mi = I
      · obtain ⟨g4, rfl, hnp, d5⟩ := HTX.out hI
        have HN1 : Hid ((pthN I (L.take (j + 1))).length = nn + 1) := by show _ = _; rw [HNX.out, if_pos hI]
        subst hI
        have n1 : (nn : Int) < (PL : Int) := by omega
        have n2 : ¬ (PL : Int) ≤ (nn : Int) := by omega
        have n2c : ¬ PL ≤ nn := by omega
        have n2b : decide (PL ≤ nn) = false := decide_eq_false n2c
        have n3 : (0 : Int) ≤ (nn : Int) := by omega
        have n4 : (nn : Int) ≤ 1000000 := by omega
        have d3' := d3 0
        have d5' := d5 0
        rw [World.drewN_zero] at d3' d5'
        clear HTX HNX hnp hn9
        go_wp2_with fail
        go_quiet (fail)
        have HFz := HF9.out nq
        go_wp2_with fail
        go_roundw
        case rel => exact ⟨j + 1, HY.out.2, by first | rfl | go_num | simp, by rw [HN1.out]; first | rfl | go_num | simp, HFz⟩
        case measure => have := HY.out.2; simp [intOf]; omega
      · have HN1 : Hid ((pthN I (L.take (j + 1))).length = nn) := by show _ = _; rw [HNX.out, if_neg hI]; rfl
        have HFz := HF9.out 0
        rw [World.drewN_zero] at HFz
        have HFZ : Hid (FA w w3 w9 x H (some ⟨g3, 0, none⟩) a4 (some ⟨g5, 0, none⟩) I L) := HFz
        clear HTX HNX HFz
        go_wp2_with fail
        go_roundw
        case rel => exact ⟨j + 1, HY.out.2, by first | rfl | go_num | simp, by rw [HN1.out], HFZ.out⟩
        case measure => have := HY.out.2; simp [intOf]; omega
    · have e : j = L.length := by omega
      have j1 : ¬ ((j : Int) < (L.length : Int)) := by omega
      have hpe : (((pthN I (L.take j)).length : Nat) : Int) = (PL : Int) := by rw [e, List.take_length, HPL.out.1]
      have HBE : Hid (Below w.heap.size w wr) := HF.out.bl
      rw [hpe]
      have hbb : ((PL : Int) == (PL : Int)) = true := by simp
      clear e hpe hj hjl HF HLK
      go_wp2_with fail
      go_ret
      exact ⟨by first | rfl | simp, HBE.out⟩
end Go.Proofs.YtimjggkdpmgpjaaGreatDoor

namespace Go.Proofs.YtimjggkdpmgpjaaGreatDoor
open Go.ChangeShapes Go.WideShapes Go.ChangeAt Go.RowKit Go.Joins
set_option linter.unusedVariables false
set_option linter.unusedSimpArgs false
theorem a19cell_lt {W : World} {b o : Nat} {v : Value} (h : W.cell? ⟨b, o, none⟩ = some v) : b < W.heap.size := World.block_lt_of_cell? _ _ h
set_option maxRecDepth 100000 in
theorem open_acts19 {H : Type} {enc : TypeId × Value → H} {W : World} {a0 : Option Addr} {len cap fuel : Nat} {x : DataW H × List MemPlace}
    (hf : DataW.trod enc Tryz.prog W 0 (fun _ => true) true fuel 22 [.slice a0 len cap] = some x) (hsz : ∀ n ∈ x.1.weights Tryz.prog 22, n ≤ reachBytes) :
    ∃ (A : Nat → A19), len * 40 ≤ 140737488351232 ∧ (a0 = none → len = 0 ∧ cap = 0) ∧ (∀ i, i < len → (A i).ok) ∧ IsA19 W a0 len A := by
  rcases Deep.open_slice Tryz.underlying22 hf with ⟨hcs, hx⟩ | ⟨a, len', cap', m, n, D, Pl, hcs, _, hl, hm, hmm, hx, hel⟩
  · simp at hcs
    obtain ⟨rfl, rfl, rfl⟩ := hcs
    exact ⟨fun _ => ⟨false, false, 0, 0, ⟨#[]⟩⟩, by omega, fun _ => ⟨rfl, rfl⟩, fun i hi => absurd hi (by omega), fun i hi => absurd hi (by omega)⟩
  · simp at hcs
    obtain ⟨rfl, rfl, rfl⟩ := hcs
    subst hx
    simp only [if_true] at hmm
    subst hmm
    have hu := Tryz.underlying22
    have hby : Tryz.prog.bytesOf 56 = 40 := by kernel_rfl
    have hw0 := hsz ((((List.range len).map D).length + ((List.range (m - len)).map fun j => D (len + j)).length) * Tryz.prog.bytesOf 56) (by simp [DataW.weights, hu])
    rw [hby] at hw0
    simp only [List.length_map, List.length_range] at hw0
    have hlen4 : len * 40 ≤ 140737488351232 := by
      unfold reachBytes at hw0
      omega
    have hce : Tryz.prog.cellsOf 56 = 5 := by kernel_rfl
    have hci : Tryz.prog.cellsOf 3 = 1 := by kernel_rfl
    have hcu : Tryz.prog.cellsOf 9 = 1 := by kernel_rfl
    have hc8 : Tryz.prog.cellsOf 4 = 1 := by kernel_rfl
    have hcl2 : Tryz.prog.cellsOf 54 = 2 := by kernel_rfl
    have hsp : 0 < len → a.spot = none := fun h0 => by
      obtain ⟨cs', h1, _⟩ := hel 0 (by omega)
      rw [hce] at h1
      obtain ⟨_, hcl, hcell⟩ := World.cells?_some h1
      match cs', hcl with
      | [v0, v1, v2, v3, v4], _ => simpa [Addr.add] using World.cell?_spot (hcell 0 (by omega))
    have each : ∀ i, ∃ q : A19, i < len → q.ok ∧ ∃ b o, a = ⟨b, o, none⟩ ∧ b < W.heap.size ∧ W.rangeAt b (o + i * 5) q.cs := by
      intro i
      by_cases hi : i < len
      · obtain ⟨cs', h1, h2⟩ := hel i (by omega)
        rw [hce] at h1
        obtain ⟨_, hcl, hcell⟩ := World.cells?_some h1
        obtain ⟨xs, k, hk, hxy, _, hxl, hfs⟩ := DataW.trod_struct Tryz.underlying56 h2
        match xs, hxl, cs', hcl with
        | [y0, y1, y2, y3], _, [v0, v1, v2, v3, v4], _ =>
          have g0 := hfs 0 _ rfl
          have g1 := hfs 1 _ rfl
          have g4 := hfs 2 _ rfl
          have gl := hfs 3 _ rfl
          simp [hci, hcu, hc8, hcl2] at g0 g1 gl g4
          obtain ⟨zs, k', hk', hzy, _, hzl, hgs⟩ := DataW.trod_struct Tryz.underlying54 gl
          match zs, hzl with
          | [z0, z1], _ =>
          have g2 := hgs 0 _ rfl
          have g3 := hgs 1 _ rfl
          simp [hci, hcu] at g2 g3
          obtain ⟨p0, e0, w0⟩ := DataW.trod_bool Tryz.underlying4 g0
          obtain ⟨p1, e1, w1⟩ := DataW.trod_bool Tryz.underlying4 g1
          obtain ⟨p2, e4, _, w4⟩ := DataW.trod_int Tryz.underlying3 g4
          obtain ⟨q, e2, _, w2⟩ := DataW.trod_int Tryz.underlying3 g2
          obtain ⟨r, e3, _, w3⟩ := DataW.trod_string Tryz.underlying9 g3
          simp at e0 e1 e2 e3 e4
          subst e0 e1 e2 e3 e4
          refine ⟨⟨p0, p1, p2, q, r⟩, fun _ => ⟨⟨bounds_i64 w4, bounds_i64 w2, w3⟩, ?_⟩⟩
          have c0 := hcell 0 (by decide)
          have c1 := hcell 1 (by decide)
          have c2 := hcell 2 (by decide)
          have c3 := hcell 3 (by decide)
          have c4 := hcell 4 (by decide)
          obtain ⟨b, off, spot⟩ := a
          have hspot : spot = none := hsp (by omega)
          subst hspot
          simp only [Addr.add_mid, List.getElem?_cons_zero, List.getElem?_cons_succ] at c0 c1 c2 c3 c4
          refine ⟨b, off, rfl, a19cell_lt c0, fun j v hv => ?_⟩
          match j with
          | 0 => rw [← hv]; exact c0
          | 1 => rw [← hv]; exact c1
          | 2 => rw [← hv]; exact c2
          | 3 => rw [← hv]; exact c3
          | 4 => rw [← hv]; exact c4
          | j + 5 => simp [A19.cs] at hv
      · exact ⟨⟨false, false, 0, 0, ⟨#[]⟩⟩, fun h => absurd h hi⟩
    refine ⟨fun i => Classical.choose (each i), hlen4, fun h => by simp at h, fun i hi => (Classical.choose_spec (each i) hi).1, fun i hi => ?_⟩
    obtain ⟨b, o, rfl, h1, h2⟩ := (Classical.choose_spec (each i) hi).2
    exact ⟨b, o, rfl, h1, h2⟩
theorem open_acts19y {H : Type} {enc : TypeId × Value → H} {W : World} {a0 : Option Addr} {len cap fuel : Nat} {x : DataW H × List MemPlace}
    (hf : DataW.trod enc Tryz.prog W 0 (fun _ => true) true fuel 22 [.slice a0 len cap] = some x) (hsz : ∀ n ∈ x.1.weights Tryz.prog 22, n ≤ reachBytes) :
    ∃ (X : Nat → A19), len ≤ 9223372036854775807 ∧ ((∀ i, i < len → (X i).ok) ∧ IsA19 W a0 len X) := by
  obtain ⟨A, h1, _, h3, h4⟩ := open_acts19 hf hsz
  exact ⟨A, by omega, h3, h4⟩
end Go.Proofs.YtimjggkdpmgpjaaGreatDoor
