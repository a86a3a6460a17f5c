/- Whatever the number: every call on a nil state answers what it must, the slot and the root of nothing, no parts, dead, and ErrCut; a state on a fresh tree stands beside it. Its condition: Go's own table math/bits.deBruijn64tab holds, when the call begins, what its initialiser lays; the card ties that to the program's text. -/
import Derived.Test.YtppagdmlfgialaaGreatDoorRows
import Derived.Test.YtppagdmlfgialaaGreatDoorTie
import Derived.Test.YtppagdmlfgialaaGreatDoorCards
import Derived.Test.YtppagdmlfgialaaGreatDoorHCommitNilOver
import Derived.WalkKit
import Derived.ProofKit
import Derived.OpenShut
import Derived.LaidMore
import Derived.Lay
import Derived.ChangeMaps5
import Derived.Stop.Joined
import Derived.Lib.LaidTab
import Derived.SevenTiedAt
import Derived.Carry
import Derived.Deep.Slices
import Derived.Lib.SmallJoins
import Derived.SizedLaws
import Derived.SliceStrings
namespace Go.Proofs.YtppagdmlfgialaaGreatDoor
open Go Go.ChangeShapes Go.WideShapes Go.ChangeAt Go.RowKit Go.Joins Go.ChangeMaps
theorem commitNil_holds : Rows.CommitNilCardSaid :=
  Claim7.holds_tied_plain_at .later [] [.data] true Rows.commitNilCard.stood.harness true
    commitNil.over (fun _ h => by cases h) (by as_aux_lemma => kernel_rfl) (fun _ h => by cases h) commitNil_row_tie rfl ⟨rfl, rfl⟩ (by as_aux_lemma => kernel_rfl) rfl
    (fun f fn hf hfn => by
      obtain rfl : f = 3 := Option.some.inj ((show Tryz.prog.funcNamed "signet/signetlaw21.CommitNil" = some 3 by kernel_rfl).symm.trans hf) |>.symm
      obtain rfl : fn = Tryz.f3 := (Option.some.inj (Tryz.func3.symm.trans hfn)).symm
      exact ⟨by as_aux_lemma => kernel_rfl, fun j t ht => by
        rw [Tryz.params3] at ht
        have hm : t ∈ [3] := by simpa using Array.mem_of_getElem? ht
        have hall : ([3].all fun u => !Tryz.prog.wantsStandIn u) = true := by kernel_rfl
        exact (show Tryz.prog.wantsStandIn t = false by simpa using List.all_eq_true.1 hall t hm)⟩)
    (by as_aux_lemma => kernel_rfl)
#print axioms commitNil_holds
end Go.Proofs.YtppagdmlfgialaaGreatDoor
