/- What makes one block another: the program's contract of Patches. -/
import Derived.Test.YtaoglljkghkbpabBlkStretch
import Derived.Test.YtaoglljkghkbpabBlkOwn
import Derived.OwnWalk
import Derived.Maps.AppendAt
import Derived.Handy
namespace Go.Proofs.Ytaoglljkghkbpab
open Go.RowKit
set_option linter.unusedSimpArgs false
set_option linter.unusedVariables false

/-- from place a on, the stretches at which two blocks differ are just those of the list -/
inductive PatL (f g : Nat → Nat) : Nat → List (Nat × Nat) → Prop
  | done {a : Nat} : 256 ≤ a → PatL f g a []
  | skip {a : Nat} {l : List (Nat × Nat)} : a < 256 → f a = g a → PatL f g (a + 1) l → PatL f g a l
  | take {a e : Nat} {l : List (Nat × Nat)} : a < e → EndIs f g a e → PatL f g e l → PatL f g a ((a, e) :: l)
theorem PatL.same {f g : Nat → Nat} {a : Nat} {l l' : List (Nat × Nat)} (h : PatL f g a l) (h' : PatL f g a l') : l' = l := by
  induction h generalizing l' with
  | done ha =>
    cases h' with
    | done _ => rfl
    | skip h1 _ _ => omega
    | take h1 h2 _ => have := h2.2.1; omega
  | skip ha he hl ih =>
    cases h' with
    | done h1 => omega
    | skip _ _ h3 => exact ih h3
    | take h1 h2 _ => exact absurd he (h2.2.2.1 _ (Nat.le_refl _) h1)
  | take ha he hl ih =>
    cases h' with
    | done h1 => have := he.2.1; omega
    | skip h1 h2 _ => exact absurd h2 (he.2.2.1 _ (Nat.le_refl _) ha)
    | take h1 h2 h3 =>
      obtain rfl := he.same h2
      rw [ih h3]
/-- one stretch is ended: what follows begins one behind -/
theorem PatL.behind {f g : Nat → Nat} {e : Nat} {l : List (Nat × Nat)} (he : e < 256 → f e = g e) (h : PatL f g (e + 1) l) : PatL f g e l := by
  by_cases h1 : e < 256
  · exact .skip h1 (he h1) h
  · have : l = [] := by
      cases h with
      | done _ => rfl
      | skip h2 _ _ => omega
      | take h2 h3 _ => have := h3.2.1; omega
    rw [this]
    exact .done (by omega)
/-- two lists of stretches, one behind the other -/
inductive PatTo (f g : Nat → Nat) : Nat → List (Nat × Nat) → Prop
  | zero : PatTo f g 0 []
  | none {a : Nat} {l : List (Nat × Nat)} : PatTo f g a l → EndIs f g a a → PatTo f g (a + 1) l
  | some {a e : Nat} {l : List (Nat × Nat)} : PatTo f g a l → a < e → EndIs f g a e → PatTo f g (e + 1) (l ++ [(a, e)])
theorem PatTo.all {f g : Nat → Nat} {a : Nat} {l : List (Nat × Nat)} (h : PatTo f g a l) : ∀ r, PatL f g a r → PatL f g 0 (l ++ r) := by
  induction h with
  | zero => exact fun r hr => hr
  | none h he ih =>
    intro r hr
    exact ih r (PatL.behind he.2.2.2 hr)
  | some h ha he ih =>
    intro r hr
    rw [List.append_assoc]
    exact ih _ (.take ha he (PatL.behind he.2.2.2 hr))
/-- the cells of patches -/
def patCells (g : Nat → Nat) (l : List (Nat × Nat)) : List Value := l.flatMap fun x => [.int .i64 ((x.1 : Nat) : Int), .string (strN (fun j => g (x.1 + j)) (x.2 - x.1))]
theorem patCells_snoc (g : Nat → Nat) (l : List (Nat × Nat)) (x : Nat × Nat) : patCells g (l ++ [x]) = patCells g l ++ [.int .i64 ((x.1 : Nat) : Int), .string (strN (fun j => g (x.1 + j)) (x.2 - x.1))] := by simp [patCells]
theorem infoPat : (Try.prog.info? 28).map (fun i => (i.zero, i.size, i.bytes)) = some (some (.agg #[.int .i64 0, .string ⟨#[]⟩]), 2, 24) := by kernel_rfl
theorem two_new (w : World) (x y : Value) (t : TypeId) : ∀ j u, [x, y][j]? = some u → (w.alloc (.cells #[x, y] t)).cell? ((⟨w.heap.size, 0, none⟩ : Addr).add j) = some u := fun j u hu => by
  have hb : Blk (w.alloc (.cells #[x, y] t)) w.heap.size t #[x, y] := Blk.new w t _
  rw [Addr.add_mid, Nat.zero_add, hb.cell]
  simpa using hu

set_option maxRecDepth 100000 in
set_option maxHeartbeats 8000000 in
theorem patches_any (f g : Nat → Nat) (w : World) :
    Calls Try.prog 6 #[bkV f, bkV g] w fun x w' => ∃ v, x = .returned v ∧ ∃ l, PatL f g 0 l ∧ l.length ≤ 257 ∧ w'.ownsRow w.heap.size 28 2 v l.length (patCells g l) ∧ Below w.heap.size w w' := by
  have hS : Hid (∀ (a : Nat), a ≤ 256 → ∀ w : World, Calls Try.prog 14 #[.agg (va 256 (iv .u8 f)), .agg (va 256 (iv .u8 g)), .int .i64 (a : Int)] w fun x w' => ∃ e : Nat, x = .returned (.int .i64 (e : Int)) ∧ EndIs f g a e ∧ Below w.heap.size w w') := fun a ha w => stretch_any f g a ha w
  obtain ⟨i0, hi, hz0, hz1, hz2⟩ := info_parts infoPat
  unfold bkV
  have b0 : Blk ((w.alloc (Obj.cells (va 256 (iv IntKind.u8 f)) 23)).alloc (Obj.cells (va 256 (iv IntKind.u8 g)) 23)) w.heap.size 23 (va 256 (iv .u8 f)) := (Blk.new _ _ _).alloc _
  have b1 := Blk.new1 w (Obj.cells (va 256 (iv IntKind.u8 f)) 23) 23 (va 256 (iv IntKind.u8 g))
  have hb := below_new2 w (Obj.cells (va 256 (iv IntKind.u8 f)) 23) (Obj.cells (va 256 (iv IntKind.u8 g)) 23)
  go_enter Try.func6, Try.ntmps6
  go_wp2_with fail
  generalize (w.alloc (Obj.cells (va 256 (iv IntKind.u8 f)) 23)).alloc (Obj.cells (va 256 (iv IntKind.u8 g)) 23) = W at *
  go_loopw [5, 6] (fun v i wr => ∃ (a cap : Nat) (q : Option Addr) (l : List (Nat × Nat)), a ≤ 257 ∧ i = .int .i64 a ∧ v = .slice q l.length cap ∧ PatTo f g a l ∧ l.length ≤ a ∧ wr.ownsRow (w.heap.size + 2) 28 2 v l.length (patCells g l) ∧ Blk wr w.heap.size 23 (va 256 (iv .u8 f)) ∧ Blk wr (w.heap.size + 1) 23 (va 256 (iv .u8 g)) ∧ Below w.heap.size w wr) (fun _ i _ => 257 - (intOf i).toNat)
  case atStart => exact ⟨0, 0, none, [], by omega, rfl, rfl, .zero, by simp, World.ownsRow_nil _ _ _ _, b0, b1, hb⟩
  case round =>
    clear b0 b1 hb
    obtain ⟨a, cap, q, l, ha, rfl, rfl, hp, hll, hown, b0, b1, hb⟩ := hrel
    have hv := hown.lt
    by_cases hlt : a < 256
    · have a1 : (a : Int) < 256 := by omega
      go_wp2_with (first
        | (refine wpList_load_row (by rfl) 23 _ (by rfl) (w.heap.size) (by rfl) 23 (va 256 (iv .u8 f)) (0, 0) _ b0 Try.underlying23 (by rfl) (sizeBk.trans (by rw [va_size])) ?_; simp only [Act.put, List.setIfInBounds_toArray, List.set_cons_zero, List.set_cons_succ])
        | (refine wpList_load_row (by rfl) 23 _ (by rfl) (w.heap.size + 1) (by rfl) 23 (va 256 (iv .u8 g)) (0, 0) _ b1 Try.underlying23 (by rfl) (sizeBk.trans (by rw [va_size])) ?_; simp only [Act.put, List.setIfInBounds_toArray, List.set_cons_zero, List.set_cons_succ])
        | fail)
      refine (hS.out a (by omega) _).mono ?_
      rintro x w1 ⟨e, rfl, hE, hh⟩
      have hown1 := kown_below hown hh
      have c0 := b0.below hh b0.lt
      have c1 := b1.below hh b1.lt
      have hb1 : Below w.heap.size w w1 := hb.trans (hh.mono hb.size)
      have hs1 : w.heap.size + 2 ≤ w1.heap.size := c1.lt
      have hv1 := hown1.lt
      obtain ⟨e1, e2, _, _⟩ := id hE
      have HE : Hid (EndIs f g a e) := hE
      have HP : Hid (PatTo f g a l) := hp
      clear hE hp hown b0 b1 hb hh hv
      by_cases hae : a < e
      · obtain ⟨d, hd⟩ : ∃ d : Nat, d = e - a := ⟨_, rfl⟩
        have HD : Hid (d = e - a) := hd
        have t1 : (a : Int) < (e : Int) := by omega
        have t2 : (0 : Int) ≤ (a : Int) := by omega
        have t3 : (a : Int) ≤ (e : Int) := by omega
        have t4 : (e : Int) ≤ 256 := by omega
        have t5 : e - a = d := by omega
        have t6 : ¬ 256 = a := by omega
        have hc := run_bytes_text (P := Try.prog) w1 29 5 9 Try.underlying29 Try.underlying5 Try.underlying9 c1 a d (256 - a) (by omega)
        have HPC : Hid (patCells g (l ++ [(a, e)]) = patCells g l ++ [.int .i64 ((a : Nat) : Int), .string (strN (fun j => g (a + j)) d)]) := by
          show _ = _
          rw [patCells_snoc, ← t5]
        generalize strN (fun j => g (a + j)) d = S at *
        have HOWN : Hid ((w1.alloc (.cells #[.int .i64 (a : Int), .string S] 28)).ownsRow (w.heap.size + 2) 28 2 (.slice q l.length cap) l.length (patCells g l)) := hown1.alloc _
        clear hd hown1
        go_wp2_with (first
          | (at_builtin; refine wpList_append_own _ rfl _ _ 24 rfl (w.heap.size + 2) 28 i0 _ 2 24 Try.underlying24 hi hz0 hz1 hz2 rfl (by decide) _ _ _ rfl HOWN.out ⟨w1.heap.size, 0, none⟩ 1 1 [.int .i64 (a : Int), .string S] rfl rfl (two_new _ _ _ _) (fun x hx => by simp at hx; rcases hx with rfl | rfl <;> rfl) (by unfold maxLen; omega) (by omega) (by simp; omega) ?_)
          | go_in)
        intro v' w2 hown' hgrow _
        have hb2 : Below (w.heap.size + 2) w1 w2 := ((Below.refl _ _).alloc hs1 _).grown hgrow (by simp; omega) (fun k hk => (hv1 k hk).1)
        rw [← HPC.out] at hown'
        obtain ⟨g3, cap3, rfl, _, _⟩ := kown_form hown' (Nat.succ_pos _)
        have d0 := c0.below hb2 (by omega)
        have d1 := c1.below hb2 (by omega)
        have hb3 : Below w.heap.size w w2 := hb1.trans (hb2.mono (by omega))
        clear HOWN hgrow hc c0 c1 hb1 hb2 hv1
        go_wp2_with fail
        go_roundw
        case rel => exact ⟨e + 1, cap3, some ⟨g3, 0, none⟩, l ++ [(a, e)], by omega, by simp, by simp, .some HP.out hae HE.out, by simp; omega, by simpa using hown', d0, d1, hb3⟩
        case measure => simp [intOf]; omega
      · obtain rfl : e = a := by omega
        go_wp2_with fail
        refine ⟨⟨e + 1, cap, q, l, by omega, by simp, rfl, .none HP.out HE.out, by omega, hown1, c0, c1, hb1⟩, ?_⟩
        simp [intOf]
        omega
    · have a1 : ¬ (a : Int) < 256 := by omega
      have HL : Hid (PatL f g 0 l) := by
        have := hp.all [] (.done (by omega))
        rw [List.append_nil] at this
        exact this
      clear hp
      go_wp2_with fail
      go_ret
      exact ⟨_, rfl, l, HL.out, by omega, kown_mono hown (Nat.le_add_right _ 2), hb⟩
end Go.Proofs.Ytaoglljkghkbpab
