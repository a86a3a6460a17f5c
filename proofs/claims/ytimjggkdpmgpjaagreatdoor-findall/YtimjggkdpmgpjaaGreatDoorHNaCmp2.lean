/- The document's Compare of texts of every length. -/
import Derived.Test.YtimjggkdpmgpjaaGreatDoorHFiOverIn
import Derived.Handy
import Derived.Test.YtimjggkdpmgpjaaGreatDoorHDkWrite
import Derived.Test.YtimjggkdpmgpjaaGreatDoorHNaJoinB
import Derived.BigQuiet
import Derived.Deep.QuietTactic

namespace Go.Proofs.YtimjggkdpmgpjaaGreatDoor
open Go Go.RowKit Go.Nam
set_option linter.unusedSimpArgs false
set_option linter.unusedVariables false
attribute [local go_sem] st_nil st_fun
/-- all that there is -/
noncomputable def allP (F : Fo) (all : Nat) : List Fd := (ov F (lft F all []) [] 1 []).1
/-- what Each leaves -/
def EaR {σ : Type} (g : Nat → Bool) (ft : σ → Nat → Prop) (Q : Nat → σ → World → Prop) (len : Nat) (s : σ) (V w' : World) : Prop :=
  ∃ s', (((∀ t, t < len → g t = true) ∧ Q len s' w') ∨ (∃ q, q < len ∧ (∀ t, t < q → g t = true) ∧ g q = false ∧ Q (q + 1) s' w')) ∧ Turns (fun z => ft s z) V w' ∧ ∀ b, ft s' b → ft s b ∨ V.heap.size ≤ b
set_option maxRecDepth 100000 in
set_option maxHeartbeats 16000000 in
theorem each_any {σ : Type} {all x mf ml mc fn : Nat} {cp : Option Addr} {F : Fo} {H : Nat → Hd} {D : Nat → Nat → Nat → Nat} {caps : Array Value} {g : Nat → Bool} {L0 : List Fd} {ft : σ → Nat → Prop} {Q : Nat → σ → World → Prop} (w : World) (ef : ∀ args w, (callFunc fn args).run Tryz.prog w = .ok (.enter fn args) w) (HC0 : OC fn caps L0 H g ft Q w.heap.size x mf ml mc) (hL0 : L0 = allP F all) (hK : ∀ d, F.dr d = true → F.K d ≤ 16384 ∧ d ≤ all) (hNm : ∀ d, F.dr d = true → ∀ i, i < F.K d → isName (F.S d i).data.toList = true) (s : σ) (hB : BJ w x mf ml mc cp all F H D) (hQ : Q 0 s w) :
    Calls Tryz.prog 13 #[.pointer (some ⟨x, 0, none⟩), .func (.func fn) #[] caps] w fun e w' => e = .returned (.int .i64 0) ∧ EaR g ft Q L0.length s w w' := by
  have hl := hB.im.lts
  have hr : w.heap.size ≠ x ∧ w.heap.size ≠ mf ∧ w.heap.size ≠ ml ∧ w.heap.size ≠ mc := ⟨by omega, by omega, by omega, by omega⟩
  have HO : Hid (∀ V, BJ V x mf ml mc cp all F H D → MP V w.heap.size [] → Q 0 s V → Calls Tryz.prog 30 #[.agg #[.pointer (some ⟨x, 0, none⟩), .func (.func fn) #[] caps, .map (some w.heap.size)], .string ⟨#[47]⟩, .int .i64 1] V (OvR g ft Q w.heap.size 0 L0.length (ov F (lft F all []) [] 1 []).2 s V)) := fun V h1 h2 h3 => by
    have := over_any ef HC0 hr hK hNm (lft F all []) [] 1 [] 0 s V (by simp) (show (accN []).length ≤ 1024 from (by show (0:Nat) ≤ 1024; omega)) (by simp) ⟨Nat.le_refl _, hB.al.1⟩ (Nat.le_refl _) (by subst hL0; intro i hi; rw [Nat.zero_add]; rfl) h1 h2 h3
    rw [hL0]
    exact this
  have HW : Hid (BJ w x mf ml mc cp all F H D ∧ Q 0 s w) := ⟨hB, hQ⟩
  have HC : Hid (OC fn caps L0 H g ft Q w.heap.size x mf ml mc) := HC0
  have hfe : ∀ w, (binOp BinOp.eql 49 (.func (.func fn) #[] caps) .nilFunc).run Tryz.prog w = .ok (.bool false) w := fun w => by first | rfl | simp [binOp, go_sem]
  have hmm := @run_makeMap Tryz.prog
  have hzr : ∀ w, (zeroValue 94).run Tryz.prog w = .ok (.agg #[.pointer none, .nilFunc, .map none]) w := fun w => di_zero (by kernel_rfl) w
  clear hl hr hB hQ HC0
  generalize hJ9 : (ov F (lft F all []) [] 1 []).2 = J9 at HO
  clear hJ9 hL0
  go_enter Tryz.func13, Tryz.ntmps13
  go_wp2_with fail
  have hb0 : Below w.heap.size w ((w.alloc (.map #[] 0)).alloc (.cells #[.pointer (some ⟨x, 0, none⟩), .func (.func fn) #[] caps, .map (some w.heap.size)] 94)) := (below_new1 w _).trans ((below_new1 _ _).mono (below_new1 w _).size)
  have hm0 : MP ((w.alloc (.map #[] 0)).alloc (.cells #[.pointer (some ⟨x, 0, none⟩), .func (.func fn) #[] caps, .map (some w.heap.size)] 94)) w.heap.size [] := (MP.new (heap_alloc_new w _)).turn (T := fun _ => False) (Turns.of_below (below_new1 _ _)) (fun q => q)
  refine (HO.out _ (HW.out.1.below hb0) hm0 (HC.out.keep _ _ _ _ (fun _ => False) HW.out.2 (Turns.of_below hb0) (fun b q => q.elim))).mono ?_
  rintro e w2 ⟨s', hres, ht2, hf2⟩
  have HE : Hid (EaR g ft Q L0.length s w w2) := by
    have htt : Turns (fun z => ft s z) w w2 := (Turns.of_below hb0).trans ht2 (fun b q => by
      rcases q with q | q
      · exact .inl q
      · exact .inr (by rw [q]; exact Nat.le_refl _))
    refine ⟨s', ?_, htt, fun b q => (hf2 b q).imp id fun h => Nat.le_trans hb0.size h⟩
    rcases hres with ⟨h1, _, h2, _⟩ | ⟨q, h0, h1, h2, _, h3⟩
    · refine .inl ⟨fun t ht => ?_, ?_⟩
      · have := h1 t ht
        rwa [Nat.zero_add] at this
      · rwa [Nat.zero_add] at h2
    · refine .inr ⟨q, h0, fun t ht => ?_, ?_, ?_⟩
      · have := h1 t ht
        rwa [Nat.zero_add] at this
      · rwa [Nat.zero_add] at h2
      · rwa [Nat.zero_add] at h3
  have he : ∃ bb, e = .returned (.tuple #[.bool bb, .int .i64 0]) := by
    rcases hres with ⟨_, h1, _⟩ | ⟨q, _, _, _, h1, _⟩
    · exact ⟨true, h1⟩
    · exact ⟨false, h1⟩
  obtain ⟨bb, rfl⟩ := he
  clear hres ht2 hf2 hb0 hm0
  go_wp2_with fail
  go_ret
  exact ⟨rfl, HE.out⟩
end Go.Proofs.YtimjggkdpmgpjaaGreatDoor

namespace Go.Proofs.YtimjggkdpmgpjaaGreatDoor
open Go Go.RowKit Go.Nam
set_option linter.unusedSimpArgs false
set_option linter.unusedVariables false
attribute [local go_sem] st_nil st_fun
def fdH (H : Nat → Hd) (x : Fd) : Array Value := fdC (bsL (frmL x.1)) ((x.2 : Nat) : Int) (H x.2).k (H x.2).l (H x.2).s (H x.2).t
/-- cells of all that is told -/
def fiL (H : Nat → Hd) : List Fd → List Value
  | [] => []
  | x :: l => (fdH H x).toList ++ fiL H l
theorem fiL_app (H : Nat → Hd) : ∀ l m : List Fd, fiL H (l ++ m) = fiL H l ++ fiL H m
  | [], m => rfl
  | x :: l, m => by simp [fiL, fiL_app H l m]
/-- the slice that grows -/
def AQ9 (H : Nat → Hd) (L0 : List Fd) (B bx rm : Nat) (j : Nat) (v : Value) (V : World) : Prop := Blk V bx 29 #[v] ∧ V.ownsRow B 42 6 v j (fiL H (L0.take j)) ∧ v.ownBlock ≠ some bx ∧ v.ownBlock ≠ some rm
def aft (bx : Nat) (v : Value) (b : Nat) : Prop := b = bx ∨ v.ownBlock = some b
theorem infoFI : (Tryz.prog.info? 42).map (fun i => (i.zero, i.size, i.bytes)) = some (some (.agg #[.string ⟨#[]⟩, .int .i64 0, .int .i64 0, .int .i64 0, .int .i64 0, .int .u64 0]), 6, 56) := by kernel_rfl
theorem size_fi : (Tryz.prog.info? 42).map (·.size) = some 6 := by kernel_rfl
section
variable {H : Nat → Hd} {L0 : List Fd} {B bx rm j : Nat} {v : Value} {V W : World}
theorem AQ9.keep {T : Nat → Prop} (h : AQ9 H L0 B bx rm j v V) (ht : Turns T V W) (hT : ∀ b, T b → ¬ aft bx v b) : AQ9 H L0 B bx rm j v W :=
  ⟨blk_turn h.1 ht (fun q => hT _ q (.inl rfl)), kown_kept h.2.1 fun k _ hk => ht.block k (h.2.1.lt k hk).2 fun q => hT k q (.inr hk), h.2.2⟩
theorem AQ9.lt (h : AQ9 H L0 B bx rm j v V) (b : Nat) (hb : aft bx v b) : b < V.heap.size := by
  rcases hb with rfl | hb
  · exact h.1.lt
  · exact (h.2.1.lt b hb).2
end
theorem fi_fold (s : ByteArray) (n k l z : Int) (st : Nat) : Array.foldl (fun cs (x : Value × Nat) => cs.setIfInBounds x.2 x.1) #[Value.string ⟨#[]⟩, .int .i64 0, .int .i64 0, .int .i64 0, .int .i64 0, .int .u64 0] (fdC s n k l z st).zipIdx 0 6 = fdC s n k l z st := by
  have h : Array.foldl (fun cs (x : Value × Nat) => cs.setIfInBounds x.2 x.1) #[Value.string ⟨#[]⟩, .int .i64 0, .int .i64 0, .int .i64 0, .int .i64 0, .int .u64 0] (fdC s n k l z st).zipIdx 0 (fdC s n k l z st).zipIdx.size = fdC s n k l z st := by simp [fdC]
  exact h
theorem fdH_one (H : Nat → Hd) (x : Fd) : ∀ u ∈ (fdH H x).toList, u.oneCell' = true := fun u hu => by
  simp [fdH, fdC] at hu
  rcases hu with rfl | rfl | rfl | rfl | rfl | rfl <;> rfl
theorem blk_setc {w : World} {b e : Nat} {u : Value} (h : Blk w b e #[u]) (v : Value) : Blk (w.setCell ⟨b, 0, none⟩ v) b e #[v] := h.put 0 v
theorem grown_blk {w w' : World} {b e : Nat} {xs : Array Value} {r : Option Nat} (h : Blk w b e xs) (hg : w.grownBy w' r) (hr : r ≠ some b) : Blk w' b e xs := by
  obtain ⟨_, _, _, _, g5⟩ := hg
  exact (g5 b h.lt (fun q => hr q.symm)).trans h
set_option maxRecDepth 100000 in
set_option maxHeartbeats 16000000 in
/-- what All hands to Each -/
theorem all1_any {H : Nat → Hd} {L0 : List Fd} {B bx rm : Nat} (hlen : L0.length ≤ 1000000) (j : Nat) (v : Value) (V : World) (N : List ByteArray) (n : Nat) (hj : L0[j]? = some (N, n)) (hrm : rm < V.heap.size) (hB : B ≤ V.heap.size) (hQ : AQ9 H L0 B bx rm j v V) : Calls Tryz.prog 25 (#[.agg (fdC (bsL (frmL N)) ((n : Nat) : Int) (H n).k (H n).l (H n).s (H n).t)] ++ #[.pointer (some ⟨bx, 0, none⟩)]) V fun e w' => e = .returned (.bool true) ∧ ∃ v', AQ9 H L0 B bx rm (j + 1) v' w' ∧ Turns (aft bx v) V w' ∧ ∀ b, aft bx v' b → aft bx v b ∨ V.heap.size ≤ b := by
  obtain ⟨i0, hi0, hz0, hz1, hz2⟩ := info_parts infoFI
  have HQ : Hid (AQ9 H L0 B bx rm j v V ∧ rm < V.heap.size ∧ B ≤ V.heap.size ∧ L0.length ≤ 1000000 ∧ L0[j]? = some (N, n)) := ⟨hQ, hrm, hB, hlen, hj⟩
  have jz : j < 1000000 := by have := (List.getElem?_eq_some_iff.1 hj).1; omega
  clear hlen hj hrm hB hQ
  generalize hfd : fdC (bsL (frmL N)) ((n : Nat) : Int) (H n).k (H n).l (H n).s (H n).t = C
  have HF : Hid (C = fdH H (N, n)) := hfd.symm
  have hsz : C.size = 6 := by rw [← hfd]; rfl
  clear hfd
  show Calls _ _ #[.agg C, .pointer (some ⟨bx, 0, none⟩)] _ _
  go_enter Tryz.func25, Tryz.ntmps25
  obtain ⟨qa, ka, rfl⟩ := kown_slice HQ.out.1.2.1
  have b1 : Blk (V.alloc (.cells C 42)) V.heap.size 42 C := Blk.new _ _ _
  have HA1 : Hid (AQ9 H L0 B bx rm j (.slice qa j ka) (V.alloc (.cells C 42))) := HQ.out.1.keep (T := fun _ => False) (Turns.of_below (below_new1 V _)) (fun b q => q.elim)
  have HA2 : Hid (AQ9 H L0 B bx rm j (.slice qa j ka) ((V.alloc (.cells C 42)).alloc (.cells C 42))) := HA1.out.keep (T := fun _ => False) (Turns.of_below (below_new1 _ _)) (fun b q => q.elim)
  have c1 : (V.alloc (.cells C 42)).cell? ⟨bx, 0, none⟩ = some (.slice qa j ka) := (HA1.out.1.cell 0).trans rfl
  have hfo : Array.foldl (fun cs (x : Value × Nat) => cs.setIfInBounds x.2 x.1) #[Value.string ⟨#[]⟩, .int .i64 0, .int .i64 0, .int .i64 0, .int .i64 0, .int .u64 0] C.zipIdx 0 6 = C := by rw [HF.out]; exact fi_fold _ _ _ _ _ _
  have HB2 : Hid (Blk ((V.alloc (.cells C 42)).alloc (.cells C 42)) (V.heap.size + 1) 42 C) := Blk.new1 _ _ _ _
  have HC2 : Hid (∀ i u, C.toList[i]? = some u → ((V.alloc (.cells C 42)).alloc (.cells C 42)).cell? ((⟨V.heap.size + 1, 0, none⟩ : Addr).add i) = some u) := fun i u hi => by
    rw [Addr.add_mid, Nat.zero_add, HB2.out.cell i, ← Array.getElem?_toList]
    exact hi
  have HS2 : Hid (B ≤ ((V.alloc (.cells C 42)).alloc (.cells C 42)).heap.size) := by have := HQ.out.2.2.1; show B ≤ _; simp; omega
  have hcl : C.toList.length = 6 := by rw [Array.length_toList, hsz]
  have HON : Hid (∀ u ∈ C.toList, u.oneCell' = true) := by show ∀ u ∈ C.toList, _; rw [HF.out]; exact fdH_one H (N, n)
  go_wp2_with (first
    | (refine wpList_load_rowg (by rfl) 42 _ (by rfl) (V.heap.size) (by rfl) 42 C (0, 0) _ (by exact b1) Tryz.underlying42 (by rfl) (size_fi.trans (by rw [hsz])) ?_; simp only [Act.put, List.setIfInBounds_toArray, List.set_cons_zero, List.set_cons_succ])
    | (at_builtin; refine wpList_append_own_at (by rfl) _ _ 29 (by rfl) B 42 i0 (.agg #[.string ⟨#[]⟩, .int .i64 0, .int .i64 0, .int .i64 0, .int .i64 0, .int .u64 0]) 6 56 Tryz.underlying29 hi0 hz0 hz1 hz2 rfl (by decide) _ j _ (by rfl) (by exact HA2.out.2.1) ⟨V.heap.size + 1, 0, none⟩ 1 1 C.toList (by rfl) (by rw [hcl]) (by exact HC2.out) (by exact HON.out) (by unfold maxLen; omega) (by omega) (by exact HS2.out) (fun v2 U2 ho2 hg2 ha2 => ?_); obtain ⟨q2, k2, rfl⟩ := kown_slice ho2; have hbU : Blk U2 bx 29 #[.slice qa j ka] := grown_blk HA2.out.1 hg2 HA2.out.2.2.1; have cU := (hbU.cell 0).trans rfl; have fU := hbU.frozen 0; simp only [Act.put, List.setIfInBounds_toArray, List.set_cons_zero, List.set_cons_succ])
    | fail)
  go_ret
  have hne2 : (Value.slice q2 (j + 1) k2).ownBlock ≠ some bx := by
    rcases ha2 with e | e
    · rw [e]; exact HA2.out.2.2.1
    · rw [e]
      intro q
      injection q with q
      have h1 := HQ.out.1.1.lt
      have q2 : ((V.alloc (.cells C 42)).alloc (.cells C 42)).heap.size = bx := q
      simp at q2
      omega
  have hner : (Value.slice q2 (j + 1) k2).ownBlock ≠ some rm := by
    rcases ha2 with e | e
    · rw [e]; exact HA2.out.2.2.2
    · rw [e]
      intro q
      injection q with q
      have h1 := HQ.out.2.1
      have q2 : ((V.alloc (.cells C 42)).alloc (.cells C 42)).heap.size = rm := q
      simp at q2
      omega
  have hb2 : Below V.heap.size V ((V.alloc (.cells C 42)).alloc (.cells C 42)) := (below_new1 V _).trans ((below_new1 _ _).mono (below_new1 V _).size)
  have tg : Turns (aft bx (.slice qa j ka)) ((V.alloc (.cells C 42)).alloc (.cells C 42)) U2 := by
    obtain ⟨g1, g2, g3, g4, g5⟩ := hg2
    exact ⟨g1, g2, g3, g4, fun b hb hn => g5 b hb fun q => hn (.inr q.symm)⟩
  have tc : Turns (fun z => z = bx) U2 (U2.setCell ⟨bx, 0, none⟩ (.slice q2 (j + 1) k2)) := Turns.cell _ _ _ _ rfl
  have hown : (U2.setCell ⟨bx, 0, none⟩ (.slice q2 (j + 1) k2)).ownsRow B 42 6 (.slice q2 (j + 1) k2) (j + 1) (fiL H (L0.take (j + 1))) := by
    have e : fiL H (L0.take (j + 1)) = fiL H (L0.take j) ++ C.toList := by
      rw [List.take_add_one, HQ.out.2.2.2.2, fiL_app]
      show _ ++ ((fdH H (N, n)).toList ++ []) = _
      rw [List.append_nil, ← HF.out]
    rw [e]
    exact kown_kept ho2 fun k _ hk => tc.block k (ho2.lt k hk).2 fun q => hne2 (by rw [hk, q])
  exact ⟨rfl, _, ⟨blk_setc hbU _, hown, hne2, hner⟩, ((Turns.of_below hb2).tr tg).tr (tc.mono fun b q => .inl q), fun b q => by
    rcases q with q | q
    · exact .inl (.inl q)
    · rcases ha2 with e | e
      · exact .inl (.inr (e.symm.trans q))
      · rw [e] at q
        injection q with q
        have q2 : ((V.alloc (.cells C 42)).alloc (.cells C 42)).heap.size = b := q
        have := hb2.size
        exact .inr (by omega)⟩
/-- how much there is -/
theorem allP_len {F : Fo} {all : Nat} (hK : ∀ d, F.dr d = true → F.K d ≤ 16384 ∧ d ≤ all) (hal : all ≤ 31) : (allP F all).length ≤ 1000000 := by
  have h1 := ov_len (F := F) (all := all) hK (lft F all []) [] 1 []
  have h2 := lft_top F all []
  show (ov F (lft F all []) [] 1 []).1.length ≤ _
  omega
theorem all_oc {H : Nat → Hd} {L0 : List Fd} {bx x mf ml mc : Nat} (hlen : L0.length ≤ 1000000) (hx : x < bx ∧ mf < bx ∧ ml < bx ∧ mc < bx) : OC 25 #[.pointer (some ⟨bx, 0, none⟩)] L0 H (fun _ => true) (aft bx) (AQ9 H L0 bx bx (bx + 1)) (bx + 1) x mf ml mc where
  call := fun j s V N n hj hrm hq => all1_any hlen j s V N n hj hrm (Nat.le_of_lt hq.1.lt) hq
  keep := fun j s V V' T hq ht hT => hq.keep ht hT
  lt := fun j s V b hq hb => hq.lt b hb
  ap := fun j s V hq => by
    have hl : ∀ y, y < bx → ¬ aft bx s y := fun y hy q => by
      rcases q with q | q
      · omega
      · have := (hq.2.1.lt y q).1; omega
    refine ⟨fun q => ?_, hl _ hx.1, hl _ hx.2.1, hl _ hx.2.2.1, hl _ hx.2.2.2⟩
    rcases q with q | q
    · omega
    · exact hq.2.2.2 q
set_option maxRecDepth 100000 in
set_option maxHeartbeats 16000000 in
theorem all_any {x mf ml mc : Nat} {cp : Option Addr} {all : Nat} {F : Fo} {H : Nat → Hd} {D : Nat → Nat → Nat → Nat} (hK : ∀ d, F.dr d = true → F.K d ≤ 16384 ∧ d ≤ all) (hNm : ∀ d, F.dr d = true → ∀ i, i < F.K d → isName (F.S d i).data.toList = true) (w : World) (hB : BJ w x mf ml mc cp all F H D) :
    Calls Tryz.prog 9 #[.pointer (some ⟨x, 0, none⟩)] w fun e w' => ∃ v, e = .returned (.tuple #[v, .int .i64 0]) ∧ w'.ownsRow w.heap.size 42 6 v (allP F all).length (fiL H (allP F all)) ∧ Below w.heap.size w w' := by
  have hlen := allP_len hK hB.al.2
  have hl := hB.im.lts
  have hb0 : Below w.heap.size w (w.alloc (.cells #[.slice none 0 0] 29)) := below_new1 w _
  have hq0 : AQ9 H (allP F all) w.heap.size w.heap.size (w.heap.size + 1) 0 (.slice none 0 0) (w.alloc (.cells #[.slice none 0 0] 29)) := ⟨Blk.new _ _ _, ⟨by simp [fiL], .inl ⟨rfl, rfl⟩⟩, by simp [Value.ownBlock]⟩
  have hoc : OC 25 #[.pointer (some ⟨w.heap.size, 0, none⟩)] (allP F all) H (fun _ => true) (aft w.heap.size) (AQ9 H (allP F all) w.heap.size w.heap.size (w.heap.size + 1)) (w.alloc (.cells #[.slice none 0 0] 29)).heap.size x mf ml mc := by
    have := all_oc (H := H) (L0 := allP F all) (bx := w.heap.size) hlen ⟨hl.1, hl.2.1, hl.2.2.1, hl.2.2.2⟩
    rw [show (w.alloc (.cells #[.slice none 0 0] 29)).heap.size = w.heap.size + 1 by simp]
    exact this
  have HEA := each_any (w.alloc (.cells #[.slice none 0 0] 29)) (fun args w => rfl) hoc rfl hK hNm (.slice none 0 0) (hB.below hb0) hq0
  have HB0 : Hid (Below w.heap.size w (w.alloc (.cells #[.slice none 0 0] 29))) := hb0
  generalize allP F all = LL at *
  clear hlen hl hb0 hq0 hoc
  go_enter Tryz.func9, Tryz.ntmps9
  go_wp2_with fail
  refine HEA.mono ?_
  rintro e w2 ⟨rfl, s', hres, ht, hf⟩
  have hq : AQ9 H LL w.heap.size w.heap.size (w.heap.size + 1) LL.length s' w2 := by
    rcases hres with ⟨_, h⟩ | ⟨q, _, _, h, _⟩
    · exact h
    · cases h
  have cv := (hq.1.cell 0).trans rfl
  have HE : Hid (w2.ownsRow w.heap.size 42 6 s' LL.length (fiL H LL) ∧ Below w.heap.size w w2) := ⟨by have h := hq.2.1; rwa [List.take_length] at h, HB0.out.trans (ht.below HB0.out.size (fun b q => by
    rcases q with q | q
    · omega
    · cases q))⟩
  clear hres ht hf hq HEA
  go_wp2_with fail
  go_ret2
  exact ⟨_, rfl, HE.out.1, HE.out.2⟩
end Go.Proofs.YtimjggkdpmgpjaaGreatDoor

namespace Go.Proofs.YtimjggkdpmgpjaaGreatDoor
set_option maxRecDepth 20000
open Go Go.RowKit Go.Nam
set_option linter.unusedVariables false
set_option linter.unusedSimpArgs false
set_option maxHeartbeats 4000000 in
theorem rcompare_big (a b : ByteArray) (ha : a.size ≤ 9223372036854775807) (hb : b.size ≤ 9223372036854775807) (w : World) :
    Calls Tryz.prog 90 #[.string a, .string b] w fun e w' => e = .returned (.int .i64 (Lib.compareBytes a.data.toList b.data.toList)) ∧ ∃ n, w' = w.drewN n := by
  have HAL : Hid (a.size = a.data.toList.length) := Lib.size_eq a
  have HBL : Hid (b.size = b.data.toList.length) := Lib.size_eq b
  generalize hc : Lib.compareBytes a.data.toList b.data.toList = c
  have HC : Hid (Lib.compareBytes a.data.toList b.data.toList = c) := hc
  clear hc
  go_enter Tryz.func90, Tryz.ntmps90
  go_wp2_with fail
  go_loopw [5] (fun v wr => Hid (∃ i : Nat, i ≤ a.size ∧ i ≤ b.size ∧ v = .int .i64 (i : Int) ∧ Lib.compareBytes (a.data.toList.drop i) (b.data.toList.drop i) = c ∧ ∃ n, wr = w.drewN n)) (fun v _ => a.size - (intOf v).toNat)
  case atStart => exact ⟨0, by omega, by omega, rfl, HC.out, 0, rfl⟩
  case round =>
    obtain ⟨i, hia, hib, rfl, hcc, nd, rfl⟩ := Hid.out hrel
    have HI : Hid (Lib.compareBytes (a.data.toList.drop i) (b.data.toList.drop i) = c) := hcc
    clear hrel hcc HC
    have fin : Hid (∀ n, ∃ m, (w.drewN nd).drewN n = w.drewN m) := fun n => ⟨_, World.drewN_drewN _ _ _⟩
    by_cases h1 : i < a.size
    · have i1 : (i : Int) < (a.size : Int) := by omega
      by_cases h2 : i < b.size
      · have i2 : (i : Int) < (b.size : Int) := by omega
        obtain ⟨x, hx⟩ : ∃ x : UInt8, a[i]'h1 = x := ⟨_, rfl⟩
        obtain ⟨y, hy⟩ : ∃ y : UInt8, b[i]'h2 = y := ⟨_, rfl⟩
        have HX : Hid (a.data.toList[i]? = some x) := by show _ = _; rw [← hx]; exact Lib.data_getElem? a i h1
        have HY : Hid (b.data.toList[i]? = some y) := by show _ = _; rw [← hy]; exact Lib.data_getElem? b i h2
        have HN : Hid ((if x < y then (-1 : Int) else if y < x then 1 else Lib.compareBytes (a.data.toList.drop (i + 1)) (b.data.toList.drop (i + 1))) = c) := by
          have := HI.out
          rw [dropAt HX.out, dropAt HY.out] at this
          exact this
        clear HI HX HY
        by_cases c1 : x < y
        · have l1 : (x.toNat : Int) < (y.toNat : Int) := by have := UInt8.lt_iff_toNat_lt.1 c1; omega
          obtain rfl : -1 = c := by have := HN.out; rwa [if_pos c1] at this
          clear HN c1
          go_wp2_with fail
          go_quiet (fail)
          go_wp2_with fail
          go_ret
          exact ⟨rfl, fin.out _⟩
        · have l1 : ¬ ((x.toNat : Int) < (y.toNat : Int)) := by intro h; exact c1 (UInt8.lt_iff_toNat_lt.2 (by omega))
          by_cases c2 : y < x
          · have l2 : (y.toNat : Int) < (x.toNat : Int) := by have := UInt8.lt_iff_toNat_lt.1 c2; omega
            obtain rfl : 1 = c := by have := HN.out; rwa [if_neg c1, if_pos c2] at this
            clear HN c1 c2
            go_wp2_with fail
            go_quiet (fail)
            have fin2 : Hid (∀ n, ∃ m, ((w.drewN nd).drewN nq).drewN n = w.drewN m) := fun n => ⟨_, by rw [World.drewN_drewN, World.drewN_drewN]⟩
            generalize (w.drewN nd).drewN nq = w3 at fin2 ⊢
            go_wp2_with fail
            go_quiet (fail)
            go_wp2_with fail
            go_ret
            exact ⟨rfl, fin2.out _⟩
          · have l2 : ¬ ((y.toNat : Int) < (x.toNat : Int)) := by intro h; exact c2 (UInt8.lt_iff_toNat_lt.2 (by omega))
            have HM : Hid (Lib.compareBytes (a.data.toList.drop (i + 1)) (b.data.toList.drop (i + 1)) = c) := by have := HN.out; rwa [if_neg c1, if_neg c2] at this
            clear HN c1 c2
            go_wp2_with fail
            go_quiet (fail)
            have fin2 : Hid (∀ n, ∃ m, ((w.drewN nd).drewN nq).drewN n = w.drewN m) := fun n => ⟨_, by rw [World.drewN_drewN, World.drewN_drewN]⟩
            generalize (w.drewN nd).drewN nq = w3 at fin2 ⊢
            go_wp2_with fail
            go_quiet (fail)
            go_wp2_with fail
            go_roundw
            case rel => exact ⟨i + 1, by omega, by omega, by first | rfl | go_num | simp, HM.out, fin2.out _⟩
            case measure => simp [intOf]; omega
      · have i2 : ¬ ((i : Int) < (b.size : Int)) := by omega
        obtain rfl : 1 = c := (cmp_nil_drop i (by rw [← HAL.out]; exact h1) (by rw [← HBL.out]; omega)).symm.trans HI.out
        have l1 : ¬ ((a.size : Int) < (b.size : Int)) := by omega
        have l2 : (b.size : Int) < (a.size : Int) := by omega
        go_wp2_with fail
        go_ret
        exact ⟨rfl, nd, rfl⟩
    · have i1 : ¬ ((i : Int) < (a.size : Int)) := by omega
      by_cases h2 : i < b.size
      · obtain rfl : -1 = c := (cmp_drop_nil i (by rw [← HBL.out]; exact h2) (by rw [← HAL.out]; omega)).symm.trans HI.out
        have l1 : (a.size : Int) < (b.size : Int) := by omega
        go_wp2_with fail
        go_ret
        exact ⟨rfl, nd, rfl⟩
      · obtain rfl : 0 = c := (cmp_nil_nil i (by rw [← HAL.out]; omega) (by rw [← HBL.out]; omega)).symm.trans HI.out
        have l1 : ¬ ((a.size : Int) < (b.size : Int)) := by omega
        have l2 : ¬ ((b.size : Int) < (a.size : Int)) := by omega
        go_wp2_with fail
        go_ret
        exact ⟨rfl, nd, rfl⟩
end Go.Proofs.YtimjggkdpmgpjaaGreatDoor
