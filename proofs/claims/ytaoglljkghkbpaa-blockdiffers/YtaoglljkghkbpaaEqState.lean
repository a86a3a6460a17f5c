/- Two states compared: true just if they are the same; in whatever world, which stays. -/
import Derived.Test.YtaoglljkghkbpaaRows
import Derived.Test.YtaoglljkghkbpaaMathState
import Derived.ChangeKeysEq
import Derived.WalkKit
namespace Go.Proofs.Ytaoglljkghkbpaa
open Go Go.RowKit

theorem run_items {P : Program} {w : World} {e : TypeId} {k : IntKind} (d : Nat) (he : P.underlying e = some (.int k)) (f g : Nat → Int) (xs ys : Array Value) :
    ∀ is : List Nat, (∀ i ∈ is, xs[i]? = some (.int k (f i)) ∧ ys[i]? = some (.int k (g i))) → (Op.eqItems (d + 1) e 1 xs ys is).run P w = .ok (is.all fun i => f i == g i) w
  | [], _ => by simp [Op.eqItems]
  | i :: is, h => by
    obtain ⟨h1, h2⟩ := h i (by simp)
    have ih := run_items (w := w) d he f g xs ys is fun j hj => h j (by simp [hj])
    have p1 : (part e xs (i * 1)).run P w = .ok (.int k (f i)) w := by
      simp [part, isAgg, run_underlying he, h1]
    have p2 : (part e ys (i * 1)).run P w = .ok (.int k (g i)) w := by
      simp [part, isAgg, run_underlying he, h2]
    have p3 : (Op.equalIn (d + 1) e (.int k (f i)) (.int k (g i))).run P w = .ok (f i == g i) w := by
      simp [Op.equalIn, run_underlying he]
    simp only [Op.eqItems, Sem.run_bind, p1, p2, p3, Result.andThen_ok]
    by_cases hq : f i = g i
    · simp only [hq, beq_self_eq_true, Bool.not_true, Bool.false_eq_true, if_false, ih, List.all_cons, Bool.true_and]
    · have : (f i == g i) = false := by simpa using hq
      simp only [this, Bool.not_false, if_true, Sem.run_pure, List.all_cons, Bool.false_and]

set_option maxRecDepth 100000 in
theorem eq_state (t : TypeId) (ht : Try.prog.underlying t = some (.array 16 35)) (a b : St) (w : World) : (Op.equalIn 10000 t (.agg (stA a)) (.agg (stA b))).run Try.prog w = .ok (decide (a = b)) w := by
  obtain ⟨i, hi⟩ : ∃ i, Try.prog.info? 35 = some i := Option.isSome_iff_exists.1 (by kernel_rfl)
  have hc : Try.prog.cellsOf 35 = 1 := by kernel_rfl
  rw [show (10000 : Nat) = 9998 + 1 + 1 from rfl, run_equalIn_array w (9998 + 1) (stA a) (stA b) ht hi, hc,
    run_items 9998 Try.underlying35 (fun i => (a.at i : Int)) (fun i => (b.at i : Int)) _ _ _ (fun i hi => ⟨stA_at a i (by simpa using hi), stA_at b i (by simpa using hi)⟩)]
  congr 1
  rw [Bool.eq_iff_iff, List.all_eq_true, decide_eq_true_eq]
  constructor
  · intro h
    refine stA_inj a b ?_
    apply Array.ext_getElem?
    intro i
    by_cases hi : i < 16
    · rw [stA_at a i hi, stA_at b i hi]
      have := h i (by simpa using hi)
      simp only [beq_iff_eq] at this
      rw [this]
    · rw [Array.getElem?_eq_none (by rw [stA_size]; omega), Array.getElem?_eq_none (by rw [stA_size]; omega)]
  · rintro rfl i _
    simp

end Go.Proofs.Ytaoglljkghkbpaa
