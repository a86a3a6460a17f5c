/- A state out of sixteen numbers. -/
import Derived.Test.YtjjjgnaihnknjaaMathState
import Derived.Test.YtjjjgnaihnknjaaOpenArray
namespace Go.Proofs.Ytjjjgnaihnknjaa
open Go

theorem state_of (l : List Int) (h : l.length = 16) (hw : ∀ x ∈ l, (Lit.int .u32 x).wf = true) : ∃ s : St, s.ok ∧ (l.map (Value.int .u32)).toArray = stA s := by
  have key : ∀ x ∈ l, ∃ n : Nat, x = (n : Int) ∧ n < 4294967296 := fun x hx => by
    have := bounds_u32 (hw x hx)
    exact ⟨x.toNat, by omega, by omega⟩
  match l, h with
  | [a0, a1, a2, a3, a4, a5, a6, a7, a8, a9, a10, a11, a12, a13, a14, a15], _ =>
    obtain ⟨n0, rfl, h0⟩ := key a0 (by simp)
    obtain ⟨n1, rfl, h1⟩ := key a1 (by simp)
    obtain ⟨n2, rfl, h2⟩ := key a2 (by simp)
    obtain ⟨n3, rfl, h3⟩ := key a3 (by simp)
    obtain ⟨n4, rfl, h4⟩ := key a4 (by simp)
    obtain ⟨n5, rfl, h5⟩ := key a5 (by simp)
    obtain ⟨n6, rfl, h6⟩ := key a6 (by simp)
    obtain ⟨n7, rfl, h7⟩ := key a7 (by simp)
    obtain ⟨n8, rfl, h8⟩ := key a8 (by simp)
    obtain ⟨n9, rfl, h9⟩ := key a9 (by simp)
    obtain ⟨n10, rfl, h10⟩ := key a10 (by simp)
    obtain ⟨n11, rfl, h11⟩ := key a11 (by simp)
    obtain ⟨n12, rfl, h12⟩ := key a12 (by simp)
    obtain ⟨n13, rfl, h13⟩ := key a13 (by simp)
    obtain ⟨n14, rfl, h14⟩ := key a14 (by simp)
    obtain ⟨n15, rfl, h15⟩ := key a15 (by simp)
    exact ⟨⟨n0, n1, n2, n3, n4, n5, n6, n7, n8, n9, n10, n11, n12, n13, n14, n15⟩, ⟨h0, h1, h2, h3, h4, h5, h6, h7, h8, h9, h10, h11, h12, h13, h14, h15⟩, rfl⟩

end Go.Proofs.Ytjjjgnaihnknjaa
