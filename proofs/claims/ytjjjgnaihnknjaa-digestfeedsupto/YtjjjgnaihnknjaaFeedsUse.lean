/- The statement DigestFeeds, called with whatever tags and parts whose letters are no more than 1048576 together: it returns true. -/
import Derived.Test.YtjjjgnaihnknjaaFeedsLaw
import Derived.Handy
namespace Go.Proofs.Ytjjjgnaihnknjaa
open Go.RowKit
set_option linter.unusedSimpArgs false
set_option linter.unusedVariables false

theorem f_new (p : Nat) (hp : p < 256) (l : List ByteArray) (w : World) : Calls Try.prog 19 #[.int .u8 (p : Int)] w fun e w' => ∃ g, e = .returned (.pointer (some ⟨g, 0, none⟩)) ∧ w.heap.size ≤ g ∧ Holds w' g (firstN p) (byteAt (preB l l.length)) (preB l 0).size ∧ Below w.heap.size w w' := by
  rw [preB_zero]
  exact new_holds p hp _ w
theorem f_write (p : Nat) (hp : p < 256) (l : List ByteArray) (hl : (preB l l.length).size ≤ 1048576) (i g : Nat) (w : World) (hi : i < l.length) (h : Holds w g (firstN p) (byteAt (preB l l.length)) (preB l i).size) :
    Calls Try.prog 18 #[.pointer (some ⟨g, 0, none⟩), .string (l.getD i ByteArray.empty)] w fun e w' => e = .returned (.tuple #[]) ∧ Holds w' g (firstN p) (byteAt (preB l l.length)) (preB l (i + 1)).size ∧ Keeps g w w' := by
  have hs := preB_succ l i hi
  obtain ⟨h1, h2⟩ := preB_whole l (i + 1)
  rw [hs, size_app] at h1
  have := write_any g (preB l i).size (firstN p) (byteAt (preB l l.length)) (l.getD i ByteArray.empty) (first_ok p hp) (byteAt_lt _) (by omega) (fun j hj => by
    have e := h2 ((preB l i).size + j) (by rw [hs, size_app]; omega)
    rw [← e, hs, byteAt_app, if_neg (by omega)]
    congr 1
    omega) w h
  rw [← size_app, ← hs] at this
  exact this
theorem f_sum (p : Nat) (hp : p < 256) (l : List ByteArray) (hl : (preB l l.length).size ≤ 1048576) (i g : Nat) (w : World) (h : Holds w g (firstN p) (byteAt (preB l l.length)) (preB l i).size) :
    Calls Try.prog 21 #[.pointer (some ⟨g, 0, none⟩)] w fun e w' => e = .returned (.agg (va 32 (iv .u8 (ofC (firstN p) (byteAt (preB l i)) (preB l i).size)))) ∧ Below w.heap.size w w' := by
  obtain ⟨h1, h2⟩ := preB_whole l i
  refine (sum_holds g _ _ _ (first_ok p hp) (byteAt_lt _) (by omega) w h).mono ?_
  rintro e w' ⟨rfl, hb⟩
  refine ⟨?_, hb⟩
  rw [ofC_congr fun j hj => (h2 j hj).symm]
theorem f_ref (p : Nat) (hp : p < 256) (l : List ByteArray) (hl : (preB l l.length).size ≤ 1048576) (i : Nat) (w : World) :
    Calls Try.prog 15 #[.int .u8 (p : Int), .string (preB l i)] w fun e w' => e = .returned (.agg (va 32 (iv .u8 (ofC (firstN p) (byteAt (preB l i)) (preB l i).size)))) ∧ Below w.heap.size w w' :=
  refOf_any p hp (preB l i) (by have := (preB_whole l i).1; omega) w
theorem f_of (p : Nat) (hp : p < 256) (l : List ByteArray) (hl : (preB l l.length).size ≤ 1048576) (i : Nat) (w : World) :
    Calls Try.prog 14 #[.int .u8 (p : Int), .string (preB l i)] w fun e w' => e = .returned (.agg (va 32 (iv .u8 (ofC (firstN p) (byteAt (preB l i)) (preB l i).size)))) ∧ Below w.heap.size w w' :=
  of_any p hp (preB l i) (by have := (preB_whole l i).1; omega) w
/-- a slice of strings that came in -/
def IsStrs (w : World) (ao : Option Addr) (l : List ByteArray) : Prop := ∀ i, i < l.length → ∃ b o, ao = some ⟨b, o, none⟩ ∧ b < w.heap.size ∧ w.cell? ⟨b, o + i, none⟩ = some (.string (l.getD i ByteArray.empty))

theorem feeds0 (w : World) (ao : Option Addr) (lt ct : Nat) (hlt : lt ≤ 1) (aoA aoB : Option Addr) (c1 c2 : Nat) (l1 l2 : List ByteArray)
    (h1 : IsStrs w aoA l1) (h2 : IsStrs w aoB l2) (z1 : (preB l1 l1.length).size ≤ 1048576) (z2 : (preB l2 l2.length).size ≤ 1048576) (n1 : l1.length ≤ 1048576) (n2 : l2.length ≤ 1048576) :
    Calls Try.prog 5 #[.slice ao lt ct, .slice aoA l1.length c1, .slice aoB l2.length c2] w fun e w' => e = .returned (.bool true) ∧ Below w.heap.size w w' :=
  feedsLaw0 w ao lt ct hlt aoA aoB l1.length l2.length c1 c2 (fun i => l1.getD i ByteArray.empty) (fun i => l2.getD i ByteArray.empty) (preB l1) (preB l2) (firstN 0) (byteAt (preB l1 l1.length)) (firstN 1) (byteAt (preB l2 l2.length))
    (fun i => ofC (firstN 0) (byteAt (preB l1 i)) (preB l1 i).size) (fun i => ofC (firstN 1) (byteAt (preB l2 i)) (preB l2 i).size)
    (f_new 0 (by decide) l1) (fun i g w hi h => f_write 0 (by decide) l1 z1 i g w hi h) (fun i g w h => f_sum 0 (by decide) l1 z1 i g w h) (fun i w => f_ref 0 (by decide) l1 z1 i w) (fun i w => f_of 0 (by decide) l1 z1 i w) (fun i g w h => len_holds g _ _ _ w h) h1 (fun i hi => preB_succ l1 i hi) (fun i hi => by rw [preB_stop l1 i hi, preB_stop l1 (i + 1) (by omega)]) (fun i => Nat.le_trans (preB_whole l1 i).1 z1) (preB_zero l1) n1
    (f_new 1 (by decide) l2) (fun i g w hi h => f_write 1 (by decide) l2 z2 i g w hi h) (fun i g w h => f_sum 1 (by decide) l2 z2 i g w h) (fun i w => f_ref 1 (by decide) l2 z2 i w) (fun i w => f_of 1 (by decide) l2 z2 i w) (fun i g w h => len_holds g _ _ _ w h) h2 (fun i hi => preB_succ l2 i hi) (fun i hi => by rw [preB_stop l2 i hi, preB_stop l2 (i + 1) (by omega)]) (fun i => Nat.le_trans (preB_whole l2 i).1 z2) (preB_zero l2) n2

theorem feeds1 (w : World) (p q : Nat) (hp : p < 256) (hq : q < 256) (bt ot lt ct : Nat) (hlt : 2 ≤ lt) (ht0 : w.cell? ⟨bt, ot, none⟩ = some (.int .u8 (p : Int))) (ht1 : w.cell? ⟨bt, ot + 1, none⟩ = some (.int .u8 (q : Int))) (aoA aoB : Option Addr) (c1 c2 : Nat) (l1 l2 : List ByteArray)
    (h1 : IsStrs w aoA l1) (h2 : IsStrs w aoB l2) (z1 : (preB l1 l1.length).size ≤ 1048576) (z2 : (preB l2 l2.length).size ≤ 1048576) (n1 : l1.length ≤ 1048576) (n2 : l2.length ≤ 1048576) :
    Calls Try.prog 5 #[.slice (some ⟨bt, ot, none⟩) lt ct, .slice aoA l1.length c1, .slice aoB l2.length c2] w fun e w' => e = .returned (.bool true) ∧ Below w.heap.size w w' :=
  feedsLaw1 w p q bt ot lt ct hlt ht0 ht1 aoA aoB l1.length l2.length c1 c2 (fun i => l1.getD i ByteArray.empty) (fun i => l2.getD i ByteArray.empty) (preB l1) (preB l2) (firstN p) (byteAt (preB l1 l1.length)) (firstN q) (byteAt (preB l2 l2.length))
    (fun i => ofC (firstN p) (byteAt (preB l1 i)) (preB l1 i).size) (fun i => ofC (firstN q) (byteAt (preB l2 i)) (preB l2 i).size)
    (f_new p hp l1) (fun i g w hi h => f_write p hp l1 z1 i g w hi h) (fun i g w h => f_sum p hp l1 z1 i g w h) (fun i w => f_ref p hp l1 z1 i w) (fun i w => f_of p hp l1 z1 i w) (fun i g w h => len_holds g _ _ _ w h) h1 (fun i hi => preB_succ l1 i hi) (fun i hi => by rw [preB_stop l1 i hi, preB_stop l1 (i + 1) (by omega)]) (fun i => Nat.le_trans (preB_whole l1 i).1 z1) (preB_zero l1) n1
    (f_new q hq l2) (fun i g w hi h => f_write q hq l2 z2 i g w hi h) (fun i g w h => f_sum q hq l2 z2 i g w h) (fun i w => f_ref q hq l2 z2 i w) (fun i w => f_of q hq l2 z2 i w) (fun i g w h => len_holds g _ _ _ w h) h2 (fun i hi => preB_succ l2 i hi) (fun i hi => by rw [preB_stop l2 i hi, preB_stop l2 (i + 1) (by omega)]) (fun i => Nat.le_trans (preB_whole l2 i).1 z2) (preB_zero l2) n2
end Go.Proofs.Ytjjjgnaihnknjaa
