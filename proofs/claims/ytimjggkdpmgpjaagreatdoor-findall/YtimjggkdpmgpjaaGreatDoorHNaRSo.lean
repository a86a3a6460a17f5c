/- The document's Sorted: entry by entry put where it belongs. -/
import Derived.Test.YtimjggkdpmgpjaaGreatDoorHNaJoinB
import Derived.Test.YtimjggkdpmgpjaaGreatDoorHNaCmp2
import Derived.Test.YtimjggkdpmgpjaaGreatDoorHMath
import Derived.BigQuiet
import Derived.Deep.QuietTactic
import Derived.Handy

namespace Go.Proofs.YtimjggkdpmgpjaaGreatDoor
theorem sgLHNaRSo : (∀ (α : Type) (a : α) (l r : List α), (a :: l) ++ r = a :: (l ++ r)) ∧ (∀ (α : Type) (l : List α), [] ++ l = l) ∧ (∀ (α : Type) (l : List α), l ++ [] = l) ∧ (∀ (α β : Type) (f : α → Option β) (a : α) (l : List α), (a :: l).filterMap f = match f a with | none => l.filterMap f | some b => b :: l.filterMap f) ∧ (∀ (α β : Type) (f : α → Option β), [].filterMap f = []) ∧ (∀ (α : Type) (l : List α) (i : Nat), l.toArray[i]? = l[i]?) ∧ (∀ (α : Type) (a : α) (l : List α), (a :: l)[0]? = some a) ∧ (∀ (α : Type) (a : α) (l : List α) (i : Nat), (a :: l)[i + 1]? = l[i]?) :=
  ⟨fun _ _ _ _ => List.cons_append, fun _ _ => List.nil_append _, fun _ _ => List.append_nil _, fun _ _ _ _ _ => List.filterMap_cons, fun _ _ _ => List.filterMap_nil, fun _ _ _ => List.getElem?_toArray, fun _ _ _ => List.getElem?_cons_zero, fun _ _ _ _ => List.getElem?_cons_succ⟩
theorem sgPHNaRSo : (∀ (α : Type) (l : List α) (i : Nat) (a : α), l.toArray.setIfInBounds i a = (l.set i a).toArray) ∧ (∀ (α : Type) (a b : α) (l : List α), (a :: l).set 0 b = b :: l) ∧ (∀ (α : Type) (a b : α) (l : List α) (i : Nat), (a :: l).set (i + 1) b = a :: l.set i b) :=
  ⟨fun _ _ _ _ => List.setIfInBounds_toArray _ _ _, fun _ _ _ _ => List.set_cons_zero, fun _ _ _ _ _ => List.set_cons_succ⟩
end Go.Proofs.YtimjggkdpmgpjaaGreatDoor
namespace Go.Proofs.YtimjggkdpmgpjaaGreatDoor
open Go Go.RowKit Go.Nam
set_option linter.unusedVariables false
set_option linter.unusedSimpArgs false
set_option maxRecDepth 100000 in
set_option maxHeartbeats 8000000 in
theorem rsorted_any (a : Option Addr) (n c : Nat) (hn : n * 24 ≤ 140737488351232) (N : Nat → Int) (S : Nat → ByteArray) (hSz : ∀ i, i < n → (S i).size ≤ 9223372036854775807) (w : World) (hI : IsLkC w a n N S) :
    Calls Tryz.prog 54 #[.slice a n c] w fun e w' => ∃ (g2 c2 : Nat) (R : List Lk), e = .returned (.slice (some ⟨g2, 0, none⟩) n c2) ∧ R.length = n ∧ SoR R ∧ R.Perm (liR N S n) ∧ w'.ownsRow w.heap.size 82 2 (.slice (some ⟨g2, 0, none⟩) n c2) n (lkR R) ∧ Below w.heap.size w w' := by
  obtain ⟨i0, hi0, hz0, hz1, hz2⟩ := info_parts infoRLk
  have HI : Hid (IsLkC w a n N S) := hI
  have HSZ : Hid (∀ i, i < n → (S i).size ≤ 9223372036854775807) := hSz
  have nb : (n : Int) ≤ 10000000000000 := by omega
  have HW : Hid (∀ z : Int, -9000000000000000 ≤ z → z ≤ 9000000000000000 → IntKind.i64.wrap z = z) := fun z h1 h2 => by simp [IntKind.wrap, IntKind.signed, IntKind.bits]; omega
  have HO0 : Hid ((w.alloc (.cells #[] 82)).ownsRow w.heap.size 82 2 (.slice (some ⟨w.heap.size, 0, none⟩) 0 0) 0 (lkR []) ∧ Below w.heap.size w (w.alloc (.cells #[] 82))) := ⟨kown_empty (Blk.new w 82 #[]) (Nat.le_refl _), (Below.refl _ w).alloc (Nat.le_refl _) _⟩
  clear hI hSz
  go_enter Tryz.func54, Tryz.ntmps54
  go_wp2_with fail
  go_loopw [3, 4] (fun v3 v4 wr => Hid (∃ (i go co : Nat) (R : List Lk), i ≤ n ∧ v3 = .slice (some ⟨go, 0, none⟩) i co ∧ v4 = .int .i64 (i : Int) ∧ R.length = i ∧ SoR R ∧ R.Perm (liR N S i) ∧ wr.ownsRow w.heap.size 82 2 (.slice (some ⟨go, 0, none⟩) i co) i (lkR R) ∧ Below w.heap.size w wr)) (fun v3 v4 _ => n - (intOf v4).toNat)
  case atStart => exact ⟨0, w.heap.size, 0, [], Nat.zero_le _, rfl, rfl, rfl, List.Pairwise.nil, List.Perm.refl _, HO0.out.1, HO0.out.2⟩
  case round =>
    obtain ⟨i, go, co, R, hin, rfl, rfl, hRl, hRs, hRp, hown, hb⟩ := Hid.out hrel
    have HR : Hid (R.length = i ∧ SoR R ∧ R.Perm (liR N S i)) := ⟨hRl, hRs, hRp⟩
    have HOW : Hid (wr.ownsRow w.heap.size 82 2 (.slice (some ⟨go, 0, none⟩) i co) i (lkR R)) := hown
    have HB : Hid (Below w.heap.size w wr) := hb
    clear hrel hRl hRs hRp hown hb HO0
    by_cases hi : i < n
    · have i1 : (i : Int) < (n : Int) := by omega
      have i0z : (0 : Int) ≤ (i : Int) := by omega
      obtain ⟨b, o, rfl, hbl, hc0, hc1⟩ := HI.out i hi
      have HL : Hid (∀ V : World, Below w.heap.size w V → V.cell? ⟨b, o + i * 2, none⟩ = some (.int .i64 (N i)) ∧ V.cell? ⟨b, o + i * 2 + 1, none⟩ = some (.string (S i))) := fun V hV => ⟨(hV.cell (p := ⟨b, o + i * 2, none⟩) hbl).trans hc0, (hV.cell (p := ⟨b, o + i * 2 + 1, none⟩) hbl).trans hc1⟩
      clear hc0 hc1 hbl
      go_wp2_with fail
      go_loopw [5] (fun v5 wx => Hid (∃ (k : Nat), k ≤ i ∧ v5 = .int .i64 (k : Int) ∧ (∀ j y, k ≤ j → R[j]? = some y → LkL (N i, S i) y) ∧ ∃ q, wx = wr.drewN q)) (fun v5 _ => (intOf v5).toNat)
      case atStart => exact ⟨i, Nat.le_refl _, rfl, fun j y hj hy => by have := (List.getElem?_eq_some_iff.1 hy).1; have := HR.out.1; omega, 0, rfl⟩
      case round =>
        obtain ⟨k, hki, rfl, hless, q, rfl⟩ := Hid.out hrel
        have HLS : Hid (∀ j y, k ≤ j → R[j]? = some y → LkL (N i, S i) y) := hless
        clear hrel hless
        obtain ⟨W1, hW1⟩ : ∃ W1, wr.drewN q = W1 := ⟨_, rfl⟩
        have HW1 : Hid (wr.drewN q = W1) := hW1
        have HOW1 : Hid (W1.ownsRow w.heap.size 82 2 (.slice (some ⟨go, 0, none⟩) i co) i (lkR R)) := by rw [← hW1]; exact HOW.out
        have HB1 : Hid (Below w.heap.size w W1) := by rw [← hW1]; exact bdrewN HB.out q
        rw [hW1]
        clear hW1
        by_cases hk0 : 0 < k
        · obtain ⟨k1, hk1⟩ : ∃ q, k = q + 1 := ⟨k - 1, by omega⟩
          have hkz : (0 : Int) < (k : Int) := by omega
          have fk : IntKind.i64.wrap ((k : Int) - 1) = (k1 : Int) := by rw [HW.out _ (by omega) (by omega)]; omega
          have hk1i : (k1 : Int) < (i : Int) := by omega
          have hk1z : (0 : Int) ≤ (k1 : Int) := by omega
          have hkR : k1 < R.length := by rw [HR.out.1]; omega
          obtain ⟨y1, y2, hy⟩ : ∃ y1 y2, R[k1]? = some (y1, y2) := ⟨_, _, List.getElem?_eq_getElem hkR⟩
          obtain ⟨e0, e1⟩ := lkR_at R k1 (y1, y2) hy
          have d0 : W1.cell? ⟨go, k1 * 2, none⟩ = some (.int .i64 y1) := by rw [HOW1.out.cellAt _ (by omega)]; exact e0
          have d1 : W1.cell? ⟨go, k1 * 2 + 1, none⟩ = some (.string y2) := by rw [HOW1.out.cellAt _ (by omega)]; exact e1
          have hyz : y2.size ≤ 9223372036854775807 := by
            have hm : (y1, y2) ∈ liR N S i := HR.out.2.2.subset (List.mem_of_getElem? hy)
            unfold liR at hm
            obtain ⟨p, hp, e⟩ := List.mem_map.1 hm
            injection e with _ e
            rw [← e]
            exact HSZ.out p (by have := List.mem_range.1 hp; omega)
          have HC : Hid (∀ V : World, Calls Tryz.prog 90 #[.string (S i), .string y2] V fun e w' => e = .returned (.int .i64 (Lib.compareBytes (S i).data.toList y2.data.toList)) ∧ ∃ n, w' = V.drewN n) := fun V => rcompare_big (S i) y2 (HSZ.out i hi) hyz V
          have HY : Hid (R[k1]? = some (y1, y2)) := hy
          have hLK := lcC_iff (N i, S i) (y1, y2)
          have c0 := (HL.out W1 HB1.out).1
          have c1 := (HL.out W1 HB1.out).2
          have htl : (S i).toList = (S i).data.toList := Lib.toList_data _
          have htl2 : y2.toList = y2.data.toList := Lib.toList_data _
          have HK : Hid (k = k1 + 1) := hk1
          clear hkR e0 e1 hyz hy hk1
          have hLK : LkL (N i, S i) (y1, y2) ↔ (Lib.compareBytes (S i).data.toList y2.data.toList = -1 ∨ ((S i).data.toList = y2.data.toList ∧ N i < y1)) := hLK
          have hone := cmp_one (S i).data.toList y2.data.toList
          have hzero := cmp_zero (a := (S i).data.toList) (b := y2.data.toList)
          generalize Lib.compareBytes (S i).data.toList y2.data.toList = cv at *
          have HLE : Hid (LkL (N i, S i) (y1, y2) → ∀ j y, k1 ≤ j → R[j]? = some y → LkL (N i, S i) y) := fun h j y hj hy => by
            by_cases c : j = k1
            · subst c
              rw [HY.out] at hy
              injection hy with hy
              rw [← hy]; exact h
            · exact HLS.out j y (by have := HK.out; omega) hy
          have HNO : Hid (¬ LkL (N i, S i) (y1, y2) → k = 0 ∨ ∃ y, R[k - 1]? = some y ∧ ¬ LkL (N i, S i) y) := fun h => .inr ⟨_, by rw [show k - 1 = k1 by have := HK.out; omega]; exact HY.out, h⟩
          have HLK : Hid (LkL (N i, S i) (y1, y2) ↔ (cv = -1 ∨ ((S i).data.toList = y2.data.toList ∧ N i < y1))) := hLK
          have HZ : Hid (cv = 0 ↔ (S i).data.toList = y2.data.toList) := hzero
          clear hLK hzero HY
          rcases hone with h | h | h
          · have hcd : decide (cv < 0) = true := decide_eq_true (by omega)
            have HLL : Hid _ := HLE.out (HLK.out.2 (.inl h))
            clear htl htl2 h HLE HNO HLK HZ
            go_wp2_with fail
            go_quiet (first | (go_at_call 90; exact Calls.quiet_of (HC.out _)))
            go_wp2_with fail
            go_roundw
            case rel => exact ⟨k1, by have := HK.out; omega, by first | rfl | go_num | simp, HLL.out, q + nq, by rw [← HW1.out, World.drewN_drewN]⟩
            case measure => have := HK.out; simp [intOf]; omega
          · have hcd : decide (cv < 0) = false := decide_eq_false (by omega)
            have hte : (S i).toList = y2.toList := by rw [htl, htl2]; exact HZ.out.1 h
            have hteb : ((S i).toList == y2.toList) = true := by rw [hte]; simp
            have HTE : Hid ((S i).data.toList = y2.data.toList) := HZ.out.1 h
            by_cases hlt : N i < y1
            · have hld : decide (N i < y1) = true := decide_eq_true hlt
              have HLL : Hid _ := HLE.out (HLK.out.2 (.inr ⟨HTE.out, hlt⟩))
              clear htl htl2 h HLE HNO HLK HZ hte
              go_wp2_with fail
              go_quiet (first | (go_at_call 90; exact Calls.quiet_of (HC.out _)))
              go_wp2_with fail
              go_roundw
              case rel => exact ⟨k1, by have := HK.out; omega, by first | rfl | go_num | simp, HLL.out, q + nq, by rw [← HW1.out, World.drewN_drewN]⟩
              case measure => have := HK.out; simp [intOf]; omega
            · have hld : decide (N i < y1) = false := decide_eq_false hlt
              have HX : Hid (k = 0 ∨ ∃ y, R[k - 1]? = some y ∧ ¬ LkL (N i, S i) y) := HNO.out fun q => by
                rcases HLK.out.1 q with q | q
                · omega
                · exact hlt q.2
              clear htl htl2 h HLE HNO HLK HZ hte
              go_wp2_with fail
              go_quiet (first | (go_at_call 90; exact Calls.quiet_of (HC.out _)))
              clear d0 d1 c0 c1
              generalize hW0 : W1.drewN nq = W0
              have HO2 : Hid (W0.ownsRow w.heap.size 82 2 (.slice (some ⟨go, 0, none⟩) i co) i (lkR R)) := by rw [← hW0]; exact HOW1.out
              have HB2 : Hid (Below w.heap.size w W0) := by rw [← hW0]; exact bdrewN HB1.out nq
              have hco := HO2.out.2
              have hcap : i ≤ co := by
                rcases hco with ⟨h, h2⟩ | ⟨g, cap, cur, h, _, _, h3, _⟩
                · cases h
                · cases h; exact h3
              clear hW0 hco
              obtain ⟨oo, ho3, hoo⟩ : ∃ oo : Nat, (if co = k then some (⟨go, 0, none⟩ : Addr) else some ⟨go, k * 2, none⟩) = some ⟨go, oo, none⟩ ∧ (co = k ∨ oo = 0 + k * 2) := by
                by_cases h : co = k
                · exact ⟨0, by rw [if_pos h], .inl h⟩
                · exact ⟨k * 2, by rw [if_neg h], .inr (by omega)⟩
              have HIR : Hid (IsR W0 go 0 R) := own_isR HO2.out
              have HGO : Hid (go < W0.heap.size) := (HO2.out.lt go rfl).2
              have HOR : Hid (∀ U : World, Below W0.heap.size W0 U → IsR U go 0 (R.take k)) := fun U hU => (HIR.out.take k).below hU HGO.out
              have HOD : Hid (∀ U : World, Below W0.heap.size W0 U → IsR U go oo (R.drop k)) := fun U hU => by
                rcases hoo with h | h
                · have hRl := HR.out.1
                  intro j u hu
                  rw [List.drop_eq_nil_of_le (by omega)] at hu
                  simp [lkR] at hu
                · rw [h]; exact (HIR.out.drop k).below hU HGO.out
              have HTK : Hid (k = (R.take k).length ∧ (([] : List Lk).length + (R.take k).length) * 24 ≤ 140737488355328) := by have := HR.out.1; show _ ∧ _; simp; omega
              have HTK2 : Hid (k = (R.take k).length ∧ ((R.take k).length + [((N i, S i) : Lk)].length) * 24 ≤ 140737488355328) := by have := HR.out.1; show _ ∧ _; simp; omega
              have HTK3 : Hid (k + 1 = (R.take k ++ [((N i, S i) : Lk)]).length ∧ i - k = (R.drop k).length ∧ ((R.take k ++ [((N i, S i) : Lk)]).length + (R.drop k).length) * 24 ≤ 140737488355328) := by have := HR.out.1; show _ ∧ _ ∧ _; simp; omega
              have HDN : Hid ((R.take k ++ ([((N i, S i) : Lk)] ++ R.drop k)).length = i + 1 ∧ SoR (R.take k ++ ([((N i, S i) : Lk)] ++ R.drop k)) ∧ (R.take k ++ ([((N i, S i) : Lk)] ++ R.drop k)).Perm (liR N S (i + 1))) := by
                refine ⟨by have := HR.out.1; simp; omega, soR_put HR.out.2.1 (by rw [HR.out.1]; exact hki) HX.out HLS.out, ?_⟩
                refine (put_perm R _ k).trans ?_
                unfold liR
                rw [List.range_succ, List.map_append]
                exact HR.out.2.2.append_right _
              clear hoo HX
              have hkz2 : (0 : Int) ≤ (k : Int) := by omega
              have hkzi : (k : Int) ≤ (i : Int) := by omega
              have hkzc : (k : Int) ≤ (co : Int) := by omega
              have hizc : (i : Int) ≤ (co : Int) := by omega
              go_wp2_with fail
              refine wp_region_plan (fun U => Below w.heap.size w U) (.yield [1, 2] 3 (.yield [5, 6] 7 (.yield [] 8 (.yield [11, 12] 13 (.fork 0 9 (.fork 4 9 (.force [] 9 (.force [] 10 (.force [] 14 (.fin [15])))) (.force [] 4 (.force [] 10 (.force [] 14 (.fin [15]))))) (.force [] 0 (.force [] 4 (.force [] 10 (.force [] 14 (.fin [15])))))))))) (by kernel_rfl) (by kernel_rfl) HB2.out.drew (plan_yield ?_)
              simp only [sgLHNaRSo]
              go_wp2_with fail
              first
                | refine ⟨rfl, _, .slice (some ⟨go, 0, none⟩) k co, rfl, Or.inl ⟨by rfl, fun U hU => by first | (go_simp; done) | (go_simp; exact ho3)⟩, plan_yield ?_⟩
                | refine ⟨rfl, .slice (some ⟨go, 0, none⟩) k co, Or.inl ⟨by rfl, fun U hU => by first | (go_simp; done) | (go_simp; exact ho3)⟩, plan_yield ?_⟩
              simp only [Act.put, sgPHNaRSo]
              simp only [sgLHNaRSo]
              go_wp2_with fail
              first
                | refine ⟨rfl, _, .pointer (some ⟨b, o + i * 2, none⟩), rfl, Or.inl ⟨by rfl, fun U hU => by first | (go_simp; done) | (go_simp; exact ho3)⟩, plan_yield ?_⟩
                | refine ⟨rfl, .pointer (some ⟨b, o + i * 2, none⟩), Or.inl ⟨by rfl, fun U hU => by first | (go_simp; done) | (go_simp; exact ho3)⟩, plan_yield ?_⟩
              simp only [Act.put, sgPHNaRSo]
              simp only [sgLHNaRSo]
              go_wp2_with fail
              first
                | refine ⟨rfl, _, .agg #[.int .i64 (N i), .string (S i)], rfl, Or.inl ⟨by rfl, fun U hU => by have c8 := (HL.out U hU).1; have c9 := (HL.out U hU).2; go_simp⟩, plan_yield ?_⟩
                | refine ⟨rfl, .agg #[.int .i64 (N i), .string (S i)], Or.inl ⟨by rfl, fun U hU => by have c8 := (HL.out U hU).1; have c9 := (HL.out U hU).2; go_simp⟩, plan_yield ?_⟩
              simp only [Act.put, sgPHNaRSo]
              simp only [sgLHNaRSo]
              go_wp2_with fail
              first
                | refine ⟨rfl, _, .slice (some ⟨go, oo, none⟩) (i - k) (co - k), rfl, Or.inl ⟨by rfl, fun U hU => by first | (go_simp; done) | (go_simp; exact ho3)⟩, plan_fork ?_ ?_⟩
                | refine ⟨rfl, .slice (some ⟨go, oo, none⟩) (i - k) (co - k), Or.inl ⟨by rfl, fun U hU => by first | (go_simp; done) | (go_simp; exact ho3)⟩, plan_fork ?_ ?_⟩
              · simp only [Act.put, sgPHNaRSo]
                simp only [sgLHNaRSo]
                have HE0' : Hid (((W0.alloc (.cells #[] 82)).drew).ownsRow W0.heap.size 82 2 (.slice (some ⟨W0.heap.size, 0, none⟩) 0 0) 0 (lkR [])) := (kown_empty (Blk.new W0 82 #[]) (Nat.le_refl _)).drew
                have HS0 : Hid (Below W0.heap.size W0 ((W0.alloc (.cells #[] 82)).drew)) := ((Below.refl _ W0).alloc (Nat.le_refl _) _).drew
                have HBS0 : Hid (Below w.heap.size w ((W0.alloc (.cells #[] 82)).drew)) := HB2.out.trans (HS0.out.mono HB2.out.size)
                go_wp2_with fail
                refine ⟨rfl, HBS0.out, plan_fork ?_ ?_⟩
                · simp only [sgLHNaRSo]
                  have HE0 : Hid _ := HE0'.out
                  have HS1 : Hid _ := HS0.out
                  have HSZ1 : Hid (W0.heap.size ≤ ((W0.alloc (.cells #[] 82)).drew).heap.size) := HS0.out.size
                  refine wpList_append_lks rfl _ _ 78 rfl W0.heap.size 82 i0 (.agg #[.int .i64 0, .string ⟨#[]⟩]) Tryz.underlying78 hi0 hz0 hz1 hz2 rfl (.slice (some ⟨W0.heap.size, 0, none⟩) 0 0) [] 0 rfl rfl HE0.out go 0 k co (R.take k) HTK.out.1 rfl (HOR.out _ HS1.out) HTK.out.2 HSZ1.out ?_
                  intro v4 U4 ho4 hb4 hg4
                  rw [Nat.zero_add, List.nil_append] at ho4
                  obtain ⟨q4, c4, rfl⟩ := kown_slice ho4
                  have HO4 : Hid (U4.ownsRow W0.heap.size 82 2 (.slice q4 k c4) k (lkR (R.take k))) := ho4
                  have HS4 : Hid (Below W0.heap.size W0 U4) := HS1.out.trans (hb4.mono (Nat.le_refl _))
                  have HBS4 : Hid (Below w.heap.size w U4) := HB2.out.trans (HS4.out.mono HB2.out.size)
                  clear ho4 hb4 hg4
                  go_wp2_with fail
                  refine ⟨rfl, HBS4.out, plan_force ?_⟩
                  simp only [sgLHNaRSo]
                  have HX9 : Hid (IsR (U4.alloc (.cells #[.int .i64 (N i), .string (S i)] 82)) U4.heap.size 0 [(N i, S i)]) := fun j u hu => by
                    have := cells_new2L U4 (.int .i64 (N i)) (.string (S i)) 82 j u hu
                    rwa [Addr.add_mid] at this
                  have HO4' : Hid ((U4.alloc (.cells #[.int .i64 (N i), .string (S i)] 82)).ownsRow W0.heap.size 82 2 (.slice q4 k c4) k (lkR (R.take k))) := HO4.out.alloc _
                  have HS4' : Hid (Below W0.heap.size W0 (U4.alloc (.cells #[.int .i64 (N i), .string (S i)] 82))) := HS4.out.alloc HS4.out.size _
                  have HBS4' : Hid (Below w.heap.size w (U4.alloc (.cells #[.int .i64 (N i), .string (S i)] 82))) := HB2.out.trans (HS4'.out.mono HB2.out.size)
                  go_wp2_with fail
                  refine ⟨rfl, HBS4'.out, plan_force ?_⟩
                  simp only [sgLHNaRSo]
                  clear HO4 HS4 HBS4
                  have HO4 : Hid _ := HO4'.out
                  have HS4 : Hid _ := HS4'.out
                  have HX4 : Hid _ := HX9.out
                  refine wpList_append_lks rfl _ _ 78 rfl W0.heap.size 82 i0 (.agg #[.int .i64 0, .string ⟨#[]⟩]) Tryz.underlying78 hi0 hz0 hz1 hz2 rfl (.slice q4 k c4) (R.take k) k HTK2.out.1 rfl HO4.out U4.heap.size 0 1 1 [(N i, S i)] rfl rfl HX4.out HTK2.out.2 HS4.out.size ?_
                  intro v5 U5 ho5 hb5 hg5
                  obtain ⟨q5, c5, rfl⟩ := kown_slice ho5
                  have HO5 : Hid (U5.ownsRow W0.heap.size 82 2 (.slice q5 (k + 1) c5) (k + 1) (lkR (R.take k ++ [(N i, S i)]))) := ho5
                  have HS5 : Hid (Below W0.heap.size W0 U5) := HS4.out.trans (hb5.mono (Nat.le_refl _))
                  have HBS5 : Hid (Below w.heap.size w U5) := HB2.out.trans (HS5.out.mono HB2.out.size)
                  clear ho5 hb5 hg5
                  go_wp2_with fail
                  refine ⟨rfl, HBS5.out, plan_force ?_⟩
                  simp only [sgLHNaRSo]
                  refine wpList_append_lks rfl _ _ 78 rfl W0.heap.size 82 i0 (.agg #[.int .i64 0, .string ⟨#[]⟩]) Tryz.underlying78 hi0 hz0 hz1 hz2 rfl (.slice q5 (k + 1) c5) (R.take k ++ [(N i, S i)]) (k + 1) HTK3.out.1 rfl HO5.out go oo (i - k) (co - k) (R.drop k) HTK3.out.2.1 rfl (HOD.out _ HS5.out) HTK3.out.2.2 HS5.out.size ?_
                  intro v6 U6 ho6 hb6 hg6
                  have HS6 : Hid (Below W0.heap.size W0 U6) := HS5.out.trans (hb6.mono (Nat.le_refl _))
                  have HBS6 : Hid (Below w.heap.size w U6) := HB2.out.trans (HS6.out.mono HB2.out.size)
                  rw [show k + 1 + (i - k) = i + 1 by omega] at ho6
                  obtain ⟨g6, c6, rfl, _⟩ := kown_form ho6 (by omega)
                  have HO6 : Hid (U6.ownsRow w.heap.size 82 2 (.slice (some ⟨g6, 0, none⟩) (i + 1) c6) (i + 1) (lkR (R.take k ++ ([(N i, S i)] ++ R.drop k)))) := by
                    have := kown_mono ho6 HB2.out.size
                    rw [List.append_assoc] at this
                    exact this
                  clear ho6 hb6 hg6
                  go_wp2_with fail
                  refine ⟨rfl, HBS6.out, plan_fin ?_⟩
                  simp only [sgLHNaRSo]
                  go_wp2_with fail
                  refine ⟨rfl, ?_⟩
                  go_wp2_with fail
                  go_roundw
                  case rel => exact ⟨i + 1, g6, c6, R.take k ++ ([(N i, S i)] ++ R.drop k), by omega, by first | rfl | go_num | simp, by first | rfl | go_num | simp, HDN.out.1, HDN.out.2.1, HDN.out.2.2, HO6.out, HBS6.out⟩
                  case measure => simp [intOf]; omega
                · simp only [sgLHNaRSo]
                  have HX9 : Hid (IsR (((W0.alloc (.cells #[] 82)).alloc (.cells #[.int .i64 (N i), .string (S i)] 82)).drew) (W0.heap.size + 1) 0 [(N i, S i)]) := fun j u hu => by
                    have := cells_new2L (W0.alloc (.cells #[] 82)) (.int .i64 (N i)) (.string (S i)) 82 j u hu
                    rw [Addr.add_mid] at this
                    simpa using this
                  have HE0 : Hid ((((W0.alloc (.cells #[] 82)).alloc (.cells #[.int .i64 (N i), .string (S i)] 82)).drew).ownsRow W0.heap.size 82 2 (.slice (some ⟨W0.heap.size, 0, none⟩) 0 0) 0 (lkR [])) := ((kown_empty (Blk.new W0 82 #[]) (Nat.le_refl _)).alloc _).drew
                  have HS1 : Hid (Below W0.heap.size W0 (((W0.alloc (.cells #[] 82)).alloc (.cells #[.int .i64 (N i), .string (S i)] 82)).drew)) := (((Below.refl _ W0).alloc (Nat.le_refl _) _).alloc (by simp) _).drew
                  have HSZ1 : Hid (W0.heap.size ≤ (((W0.alloc (.cells #[] 82)).alloc (.cells #[.int .i64 (N i), .string (S i)] 82)).drew).heap.size) := HS1.out.size
                  have HBS1 : Hid (Below w.heap.size w (((W0.alloc (.cells #[] 82)).alloc (.cells #[.int .i64 (N i), .string (S i)] 82)).drew)) := HB2.out.trans (HS1.out.mono HB2.out.size)
                  go_wp2_with fail
                  refine ⟨rfl, HBS1.out, plan_force ?_⟩
                  simp only [sgLHNaRSo]
                  refine wpList_append_lks rfl _ _ 78 rfl W0.heap.size 82 i0 (.agg #[.int .i64 0, .string ⟨#[]⟩]) Tryz.underlying78 hi0 hz0 hz1 hz2 rfl (.slice (some ⟨W0.heap.size, 0, none⟩) 0 0) [] 0 rfl rfl HE0.out go 0 k co (R.take k) HTK.out.1 rfl (HOR.out _ HS1.out) HTK.out.2 HSZ1.out ?_
                  intro v4 U4 ho4 hb4 hg4
                  rw [Nat.zero_add, List.nil_append] at ho4
                  obtain ⟨q4, c4, rfl⟩ := kown_slice ho4
                  have HO4 : Hid (U4.ownsRow W0.heap.size 82 2 (.slice q4 k c4) k (lkR (R.take k))) := ho4
                  have HS4 : Hid (Below W0.heap.size W0 U4) := HS1.out.trans (hb4.mono (Nat.le_refl _))
                  have HX4 : Hid (IsR U4 (W0.heap.size + 1) 0 [(N i, S i)]) := fun j u hu => hg4.cell (HX9.out j u hu) (by simp [Value.ownBlock])
                  have HBS4 : Hid (Below w.heap.size w U4) := HB2.out.trans (HS4.out.mono HB2.out.size)
                  clear ho4 hb4 hg4
                  go_wp2_with fail
                  refine ⟨rfl, HBS4.out, plan_force ?_⟩
                  simp only [sgLHNaRSo]
                  refine wpList_append_lks rfl _ _ 78 rfl W0.heap.size 82 i0 (.agg #[.int .i64 0, .string ⟨#[]⟩]) Tryz.underlying78 hi0 hz0 hz1 hz2 rfl (.slice q4 k c4) (R.take k) k HTK2.out.1 rfl HO4.out (W0.heap.size + 1) 0 1 1 [(N i, S i)] rfl rfl HX4.out HTK2.out.2 HS4.out.size ?_
                  intro v5 U5 ho5 hb5 hg5
                  obtain ⟨q5, c5, rfl⟩ := kown_slice ho5
                  have HO5 : Hid (U5.ownsRow W0.heap.size 82 2 (.slice q5 (k + 1) c5) (k + 1) (lkR (R.take k ++ [(N i, S i)]))) := ho5
                  have HS5 : Hid (Below W0.heap.size W0 U5) := HS4.out.trans (hb5.mono (Nat.le_refl _))
                  have HBS5 : Hid (Below w.heap.size w U5) := HB2.out.trans (HS5.out.mono HB2.out.size)
                  clear ho5 hb5 hg5
                  go_wp2_with fail
                  refine ⟨rfl, HBS5.out, plan_force ?_⟩
                  simp only [sgLHNaRSo]
                  refine wpList_append_lks rfl _ _ 78 rfl W0.heap.size 82 i0 (.agg #[.int .i64 0, .string ⟨#[]⟩]) Tryz.underlying78 hi0 hz0 hz1 hz2 rfl (.slice q5 (k + 1) c5) (R.take k ++ [(N i, S i)]) (k + 1) HTK3.out.1 rfl HO5.out go oo (i - k) (co - k) (R.drop k) HTK3.out.2.1 rfl (HOD.out _ HS5.out) HTK3.out.2.2 HS5.out.size ?_
                  intro v6 U6 ho6 hb6 hg6
                  have HS6 : Hid (Below W0.heap.size W0 U6) := HS5.out.trans (hb6.mono (Nat.le_refl _))
                  have HBS6 : Hid (Below w.heap.size w U6) := HB2.out.trans (HS6.out.mono HB2.out.size)
                  rw [show k + 1 + (i - k) = i + 1 by omega] at ho6
                  obtain ⟨g6, c6, rfl, _⟩ := kown_form ho6 (by omega)
                  have HO6 : Hid (U6.ownsRow w.heap.size 82 2 (.slice (some ⟨g6, 0, none⟩) (i + 1) c6) (i + 1) (lkR (R.take k ++ ([(N i, S i)] ++ R.drop k)))) := by
                    have := kown_mono ho6 HB2.out.size
                    rw [List.append_assoc] at this
                    exact this
                  clear ho6 hb6 hg6
                  go_wp2_with fail
                  refine ⟨rfl, HBS6.out, plan_fin ?_⟩
                  simp only [sgLHNaRSo]
                  go_wp2_with fail
                  refine ⟨rfl, ?_⟩
                  go_wp2_with fail
                  go_roundw
                  case rel => exact ⟨i + 1, g6, c6, R.take k ++ ([(N i, S i)] ++ R.drop k), by omega, by first | rfl | go_num | simp, by first | rfl | go_num | simp, HDN.out.1, HDN.out.2.1, HDN.out.2.2, HO6.out, HBS6.out⟩
                  case measure => simp [intOf]; omega
              · simp only [Act.put, sgPHNaRSo]
                simp only [sgLHNaRSo]
                have HS0 : Hid (Below W0.heap.size W0 ((W0.alloc (.cells #[.int .i64 (N i), .string (S i)] 82)).drew)) := ((Below.refl _ W0).alloc (Nat.le_refl _) _).drew
                have HBS0 : Hid (Below w.heap.size w ((W0.alloc (.cells #[.int .i64 (N i), .string (S i)] 82)).drew)) := HB2.out.trans (HS0.out.mono HB2.out.size)
                go_wp2_with fail
                refine ⟨rfl, HBS0.out, plan_force ?_⟩
                simp only [sgLHNaRSo]
                have HX9 : Hid (IsR (((W0.alloc (.cells #[.int .i64 (N i), .string (S i)] 82)).alloc (.cells #[] 82)).drew) W0.heap.size 0 [(N i, S i)]) := fun j u hu => by
                  have h1 := cells_new2L W0 (.int .i64 (N i)) (.string (S i)) 82 j u hu
                  rw [Addr.add_mid] at h1
                  exact (((Below.refl _ (W0.alloc (.cells #[.int .i64 (N i), .string (S i)] 82))).alloc (Nat.le_refl _) (.cells #[] 82)).cell (p := ⟨W0.heap.size, 0 + j, none⟩) (by simp)).trans h1
                have HE0 : Hid ((((W0.alloc (.cells #[.int .i64 (N i), .string (S i)] 82)).alloc (.cells #[] 82)).drew).ownsRow W0.heap.size 82 2 (.slice (some ⟨W0.heap.size + 1, 0, none⟩) 0 0) 0 (lkR [])) := by
                  have := (kown_empty (size := 2) (B := W0.heap.size) (Blk.new (W0.alloc (.cells #[.int .i64 (N i), .string (S i)] 82)) 82 #[]) (by simp)).drew
                  show World.ownsRow _ _ _ _ _ _ _
                  simpa [lkR] using this
                have HS1 : Hid (Below W0.heap.size W0 (((W0.alloc (.cells #[.int .i64 (N i), .string (S i)] 82)).alloc (.cells #[] 82)).drew)) := (((Below.refl _ W0).alloc (Nat.le_refl _) _).alloc (by simp) _).drew
                have HSZ1 : Hid (W0.heap.size ≤ (((W0.alloc (.cells #[.int .i64 (N i), .string (S i)] 82)).alloc (.cells #[] 82)).drew).heap.size) := HS1.out.size
                have HBS1 : Hid (Below w.heap.size w (((W0.alloc (.cells #[.int .i64 (N i), .string (S i)] 82)).alloc (.cells #[] 82)).drew)) := HB2.out.trans (HS1.out.mono HB2.out.size)
                go_wp2_with fail
                refine ⟨rfl, HBS1.out, plan_force ?_⟩
                simp only [sgLHNaRSo]
                refine wpList_append_lks rfl _ _ 78 rfl W0.heap.size 82 i0 (.agg #[.int .i64 0, .string ⟨#[]⟩]) Tryz.underlying78 hi0 hz0 hz1 hz2 rfl (.slice (some ⟨(W0.heap.size + 1), 0, none⟩) 0 0) [] 0 rfl rfl HE0.out go 0 k co (R.take k) HTK.out.1 rfl (HOR.out _ HS1.out) HTK.out.2 HSZ1.out ?_
                intro v4 U4 ho4 hb4 hg4
                rw [Nat.zero_add, List.nil_append] at ho4
                obtain ⟨q4, c4, rfl⟩ := kown_slice ho4
                have HO4 : Hid (U4.ownsRow W0.heap.size 82 2 (.slice q4 k c4) k (lkR (R.take k))) := ho4
                have HS4 : Hid (Below W0.heap.size W0 U4) := HS1.out.trans (hb4.mono (Nat.le_refl _))
                have HX4 : Hid (IsR U4 W0.heap.size 0 [(N i, S i)]) := fun j u hu => hg4.cell (HX9.out j u hu) (by simp [Value.ownBlock])
                have HBS4 : Hid (Below w.heap.size w U4) := HB2.out.trans (HS4.out.mono HB2.out.size)
                clear ho4 hb4 hg4
                go_wp2_with fail
                refine ⟨rfl, HBS4.out, plan_force ?_⟩
                simp only [sgLHNaRSo]
                refine wpList_append_lks rfl _ _ 78 rfl W0.heap.size 82 i0 (.agg #[.int .i64 0, .string ⟨#[]⟩]) Tryz.underlying78 hi0 hz0 hz1 hz2 rfl (.slice q4 k c4) (R.take k) k HTK2.out.1 rfl HO4.out W0.heap.size 0 1 1 [(N i, S i)] rfl rfl HX4.out HTK2.out.2 HS4.out.size ?_
                intro v5 U5 ho5 hb5 hg5
                obtain ⟨q5, c5, rfl⟩ := kown_slice ho5
                have HO5 : Hid (U5.ownsRow W0.heap.size 82 2 (.slice q5 (k + 1) c5) (k + 1) (lkR (R.take k ++ [(N i, S i)]))) := ho5
                have HS5 : Hid (Below W0.heap.size W0 U5) := HS4.out.trans (hb5.mono (Nat.le_refl _))
                have HBS5 : Hid (Below w.heap.size w U5) := HB2.out.trans (HS5.out.mono HB2.out.size)
                clear ho5 hb5 hg5
                go_wp2_with fail
                refine ⟨rfl, HBS5.out, plan_force ?_⟩
                simp only [sgLHNaRSo]
                refine wpList_append_lks rfl _ _ 78 rfl W0.heap.size 82 i0 (.agg #[.int .i64 0, .string ⟨#[]⟩]) Tryz.underlying78 hi0 hz0 hz1 hz2 rfl (.slice q5 (k + 1) c5) (R.take k ++ [(N i, S i)]) (k + 1) HTK3.out.1 rfl HO5.out go oo (i - k) (co - k) (R.drop k) HTK3.out.2.1 rfl (HOD.out _ HS5.out) HTK3.out.2.2 HS5.out.size ?_
                intro v6 U6 ho6 hb6 hg6
                have HS6 : Hid (Below W0.heap.size W0 U6) := HS5.out.trans (hb6.mono (Nat.le_refl _))
                have HBS6 : Hid (Below w.heap.size w U6) := HB2.out.trans (HS6.out.mono HB2.out.size)
                rw [show k + 1 + (i - k) = i + 1 by omega] at ho6
                obtain ⟨g6, c6, rfl, _⟩ := kown_form ho6 (by omega)
                have HO6 : Hid (U6.ownsRow w.heap.size 82 2 (.slice (some ⟨g6, 0, none⟩) (i + 1) c6) (i + 1) (lkR (R.take k ++ ([(N i, S i)] ++ R.drop k)))) := by
                  have := kown_mono ho6 HB2.out.size
                  rw [List.append_assoc] at this
                  exact this
                clear ho6 hb6 hg6
                go_wp2_with fail
                refine ⟨rfl, HBS6.out, plan_fin ?_⟩
                simp only [sgLHNaRSo]
                go_wp2_with fail
                refine ⟨rfl, ?_⟩
                go_wp2_with fail
                go_roundw
                case rel => exact ⟨i + 1, g6, c6, R.take k ++ ([(N i, S i)] ++ R.drop k), by omega, by first | rfl | go_num | simp, by first | rfl | go_num | simp, HDN.out.1, HDN.out.2.1, HDN.out.2.2, HO6.out, HBS6.out⟩
                case measure => simp [intOf]; omega
          · have hcd : decide (cv < 0) = false := decide_eq_false (by omega)
            have htn : ¬ (S i).data.toList = y2.data.toList := fun q => by have := HZ.out.2 q; omega
            have hteb : ((S i).toList == y2.toList) = false := by rw [beq_eq_false_iff_ne, htl, htl2]; exact htn
            have hte : ¬ (S i).toList = y2.toList := by rw [htl, htl2]; exact htn
            have HX : Hid (k = 0 ∨ ∃ y, R[k - 1]? = some y ∧ ¬ LkL (N i, S i) y) := HNO.out fun q => by
              rcases HLK.out.1 q with q | q
              · omega
              · exact htn q.1
            clear htl htl2 h HLE HNO HLK HZ htn
            go_wp2_with fail
            go_quiet (first | (go_at_call 90; exact Calls.quiet_of (HC.out _)))
            clear d0 d1 c0 c1
            generalize hW0 : W1.drewN nq = W0
            have HO2 : Hid (W0.ownsRow w.heap.size 82 2 (.slice (some ⟨go, 0, none⟩) i co) i (lkR R)) := by rw [← hW0]; exact HOW1.out
            have HB2 : Hid (Below w.heap.size w W0) := by rw [← hW0]; exact bdrewN HB1.out nq
            have hco := HO2.out.2
            have hcap : i ≤ co := by
              rcases hco with ⟨h, h2⟩ | ⟨g, cap, cur, h, _, _, h3, _⟩
              · cases h
              · cases h; exact h3
            clear hW0 hco
            obtain ⟨oo, ho3, hoo⟩ : ∃ oo : Nat, (if co = k then some (⟨go, 0, none⟩ : Addr) else some ⟨go, k * 2, none⟩) = some ⟨go, oo, none⟩ ∧ (co = k ∨ oo = 0 + k * 2) := by
              by_cases h : co = k
              · exact ⟨0, by rw [if_pos h], .inl h⟩
              · exact ⟨k * 2, by rw [if_neg h], .inr (by omega)⟩
            have HIR : Hid (IsR W0 go 0 R) := own_isR HO2.out
            have HGO : Hid (go < W0.heap.size) := (HO2.out.lt go rfl).2
            have HOR : Hid (∀ U : World, Below W0.heap.size W0 U → IsR U go 0 (R.take k)) := fun U hU => (HIR.out.take k).below hU HGO.out
            have HOD : Hid (∀ U : World, Below W0.heap.size W0 U → IsR U go oo (R.drop k)) := fun U hU => by
              rcases hoo with h | h
              · have hRl := HR.out.1
                intro j u hu
                rw [List.drop_eq_nil_of_le (by omega)] at hu
                simp [lkR] at hu
              · rw [h]; exact (HIR.out.drop k).below hU HGO.out
            have HTK : Hid (k = (R.take k).length ∧ (([] : List Lk).length + (R.take k).length) * 24 ≤ 140737488355328) := by have := HR.out.1; show _ ∧ _; simp; omega
            have HTK2 : Hid (k = (R.take k).length ∧ ((R.take k).length + [((N i, S i) : Lk)].length) * 24 ≤ 140737488355328) := by have := HR.out.1; show _ ∧ _; simp; omega
            have HTK3 : Hid (k + 1 = (R.take k ++ [((N i, S i) : Lk)]).length ∧ i - k = (R.drop k).length ∧ ((R.take k ++ [((N i, S i) : Lk)]).length + (R.drop k).length) * 24 ≤ 140737488355328) := by have := HR.out.1; show _ ∧ _ ∧ _; simp; omega
            have HDN : Hid ((R.take k ++ ([((N i, S i) : Lk)] ++ R.drop k)).length = i + 1 ∧ SoR (R.take k ++ ([((N i, S i) : Lk)] ++ R.drop k)) ∧ (R.take k ++ ([((N i, S i) : Lk)] ++ R.drop k)).Perm (liR N S (i + 1))) := by
              refine ⟨by have := HR.out.1; simp; omega, soR_put HR.out.2.1 (by rw [HR.out.1]; exact hki) HX.out HLS.out, ?_⟩
              refine (put_perm R _ k).trans ?_
              unfold liR
              rw [List.range_succ, List.map_append]
              exact HR.out.2.2.append_right _
            clear hoo HX
            have hkz2 : (0 : Int) ≤ (k : Int) := by omega
            have hkzi : (k : Int) ≤ (i : Int) := by omega
            have hkzc : (k : Int) ≤ (co : Int) := by omega
            have hizc : (i : Int) ≤ (co : Int) := by omega
            go_wp2_with fail
            refine wp_region_plan (fun U => Below w.heap.size w U) (.yield [1, 2] 3 (.yield [5, 6] 7 (.yield [] 8 (.yield [11, 12] 13 (.fork 0 9 (.fork 4 9 (.force [] 9 (.force [] 10 (.force [] 14 (.fin [15])))) (.force [] 4 (.force [] 10 (.force [] 14 (.fin [15]))))) (.force [] 0 (.force [] 4 (.force [] 10 (.force [] 14 (.fin [15])))))))))) (by kernel_rfl) (by kernel_rfl) HB2.out.drew (plan_yield ?_)
            simp only [sgLHNaRSo]
            go_wp2_with fail
            first
              | refine ⟨rfl, _, .slice (some ⟨go, 0, none⟩) k co, rfl, Or.inl ⟨by rfl, fun U hU => by first | (go_simp; done) | (go_simp; exact ho3)⟩, plan_yield ?_⟩
              | refine ⟨rfl, .slice (some ⟨go, 0, none⟩) k co, Or.inl ⟨by rfl, fun U hU => by first | (go_simp; done) | (go_simp; exact ho3)⟩, plan_yield ?_⟩
            simp only [Act.put, sgPHNaRSo]
            simp only [sgLHNaRSo]
            go_wp2_with fail
            first
              | refine ⟨rfl, _, .pointer (some ⟨b, o + i * 2, none⟩), rfl, Or.inl ⟨by rfl, fun U hU => by first | (go_simp; done) | (go_simp; exact ho3)⟩, plan_yield ?_⟩
              | refine ⟨rfl, .pointer (some ⟨b, o + i * 2, none⟩), Or.inl ⟨by rfl, fun U hU => by first | (go_simp; done) | (go_simp; exact ho3)⟩, plan_yield ?_⟩
            simp only [Act.put, sgPHNaRSo]
            simp only [sgLHNaRSo]
            go_wp2_with fail
            first
              | refine ⟨rfl, _, .agg #[.int .i64 (N i), .string (S i)], rfl, Or.inl ⟨by rfl, fun U hU => by have c8 := (HL.out U hU).1; have c9 := (HL.out U hU).2; go_simp⟩, plan_yield ?_⟩
              | refine ⟨rfl, .agg #[.int .i64 (N i), .string (S i)], Or.inl ⟨by rfl, fun U hU => by have c8 := (HL.out U hU).1; have c9 := (HL.out U hU).2; go_simp⟩, plan_yield ?_⟩
            simp only [Act.put, sgPHNaRSo]
            simp only [sgLHNaRSo]
            go_wp2_with fail
            first
              | refine ⟨rfl, _, .slice (some ⟨go, oo, none⟩) (i - k) (co - k), rfl, Or.inl ⟨by rfl, fun U hU => by first | (go_simp; done) | (go_simp; exact ho3)⟩, plan_fork ?_ ?_⟩
              | refine ⟨rfl, .slice (some ⟨go, oo, none⟩) (i - k) (co - k), Or.inl ⟨by rfl, fun U hU => by first | (go_simp; done) | (go_simp; exact ho3)⟩, plan_fork ?_ ?_⟩
            · simp only [Act.put, sgPHNaRSo]
              simp only [sgLHNaRSo]
              have HE0' : Hid (((W0.alloc (.cells #[] 82)).drew).ownsRow W0.heap.size 82 2 (.slice (some ⟨W0.heap.size, 0, none⟩) 0 0) 0 (lkR [])) := (kown_empty (Blk.new W0 82 #[]) (Nat.le_refl _)).drew
              have HS0 : Hid (Below W0.heap.size W0 ((W0.alloc (.cells #[] 82)).drew)) := ((Below.refl _ W0).alloc (Nat.le_refl _) _).drew
              have HBS0 : Hid (Below w.heap.size w ((W0.alloc (.cells #[] 82)).drew)) := HB2.out.trans (HS0.out.mono HB2.out.size)
              go_wp2_with fail
              refine ⟨rfl, HBS0.out, plan_fork ?_ ?_⟩
              · simp only [sgLHNaRSo]
                have HE0 : Hid _ := HE0'.out
                have HS1 : Hid _ := HS0.out
                have HSZ1 : Hid (W0.heap.size ≤ ((W0.alloc (.cells #[] 82)).drew).heap.size) := HS0.out.size
                refine wpList_append_lks rfl _ _ 78 rfl W0.heap.size 82 i0 (.agg #[.int .i64 0, .string ⟨#[]⟩]) Tryz.underlying78 hi0 hz0 hz1 hz2 rfl (.slice (some ⟨W0.heap.size, 0, none⟩) 0 0) [] 0 rfl rfl HE0.out go 0 k co (R.take k) HTK.out.1 rfl (HOR.out _ HS1.out) HTK.out.2 HSZ1.out ?_
                intro v4 U4 ho4 hb4 hg4
                rw [Nat.zero_add, List.nil_append] at ho4
                obtain ⟨q4, c4, rfl⟩ := kown_slice ho4
                have HO4 : Hid (U4.ownsRow W0.heap.size 82 2 (.slice q4 k c4) k (lkR (R.take k))) := ho4
                have HS4 : Hid (Below W0.heap.size W0 U4) := HS1.out.trans (hb4.mono (Nat.le_refl _))
                have HBS4 : Hid (Below w.heap.size w U4) := HB2.out.trans (HS4.out.mono HB2.out.size)
                clear ho4 hb4 hg4
                go_wp2_with fail
                refine ⟨rfl, HBS4.out, plan_force ?_⟩
                simp only [sgLHNaRSo]
                have HX9 : Hid (IsR (U4.alloc (.cells #[.int .i64 (N i), .string (S i)] 82)) U4.heap.size 0 [(N i, S i)]) := fun j u hu => by
                  have := cells_new2L U4 (.int .i64 (N i)) (.string (S i)) 82 j u hu
                  rwa [Addr.add_mid] at this
                have HO4' : Hid ((U4.alloc (.cells #[.int .i64 (N i), .string (S i)] 82)).ownsRow W0.heap.size 82 2 (.slice q4 k c4) k (lkR (R.take k))) := HO4.out.alloc _
                have HS4' : Hid (Below W0.heap.size W0 (U4.alloc (.cells #[.int .i64 (N i), .string (S i)] 82))) := HS4.out.alloc HS4.out.size _
                have HBS4' : Hid (Below w.heap.size w (U4.alloc (.cells #[.int .i64 (N i), .string (S i)] 82))) := HB2.out.trans (HS4'.out.mono HB2.out.size)
                go_wp2_with fail
                refine ⟨rfl, HBS4'.out, plan_force ?_⟩
                simp only [sgLHNaRSo]
                clear HO4 HS4 HBS4
                have HO4 : Hid _ := HO4'.out
                have HS4 : Hid _ := HS4'.out
                have HX4 : Hid _ := HX9.out
                refine wpList_append_lks rfl _ _ 78 rfl W0.heap.size 82 i0 (.agg #[.int .i64 0, .string ⟨#[]⟩]) Tryz.underlying78 hi0 hz0 hz1 hz2 rfl (.slice q4 k c4) (R.take k) k HTK2.out.1 rfl HO4.out U4.heap.size 0 1 1 [(N i, S i)] rfl rfl HX4.out HTK2.out.2 HS4.out.size ?_
                intro v5 U5 ho5 hb5 hg5
                obtain ⟨q5, c5, rfl⟩ := kown_slice ho5
                have HO5 : Hid (U5.ownsRow W0.heap.size 82 2 (.slice q5 (k + 1) c5) (k + 1) (lkR (R.take k ++ [(N i, S i)]))) := ho5
                have HS5 : Hid (Below W0.heap.size W0 U5) := HS4.out.trans (hb5.mono (Nat.le_refl _))
                have HBS5 : Hid (Below w.heap.size w U5) := HB2.out.trans (HS5.out.mono HB2.out.size)
                clear ho5 hb5 hg5
                go_wp2_with fail
                refine ⟨rfl, HBS5.out, plan_force ?_⟩
                simp only [sgLHNaRSo]
                refine wpList_append_lks rfl _ _ 78 rfl W0.heap.size 82 i0 (.agg #[.int .i64 0, .string ⟨#[]⟩]) Tryz.underlying78 hi0 hz0 hz1 hz2 rfl (.slice q5 (k + 1) c5) (R.take k ++ [(N i, S i)]) (k + 1) HTK3.out.1 rfl HO5.out go oo (i - k) (co - k) (R.drop k) HTK3.out.2.1 rfl (HOD.out _ HS5.out) HTK3.out.2.2 HS5.out.size ?_
                intro v6 U6 ho6 hb6 hg6
                have HS6 : Hid (Below W0.heap.size W0 U6) := HS5.out.trans (hb6.mono (Nat.le_refl _))
                have HBS6 : Hid (Below w.heap.size w U6) := HB2.out.trans (HS6.out.mono HB2.out.size)
                rw [show k + 1 + (i - k) = i + 1 by omega] at ho6
                obtain ⟨g6, c6, rfl, _⟩ := kown_form ho6 (by omega)
                have HO6 : Hid (U6.ownsRow w.heap.size 82 2 (.slice (some ⟨g6, 0, none⟩) (i + 1) c6) (i + 1) (lkR (R.take k ++ ([(N i, S i)] ++ R.drop k)))) := by
                  have := kown_mono ho6 HB2.out.size
                  rw [List.append_assoc] at this
                  exact this
                clear ho6 hb6 hg6
                go_wp2_with fail
                refine ⟨rfl, HBS6.out, plan_fin ?_⟩
                simp only [sgLHNaRSo]
                go_wp2_with fail
                refine ⟨rfl, ?_⟩
                go_wp2_with fail
                go_roundw
                case rel => exact ⟨i + 1, g6, c6, R.take k ++ ([(N i, S i)] ++ R.drop k), by omega, by first | rfl | go_num | simp, by first | rfl | go_num | simp, HDN.out.1, HDN.out.2.1, HDN.out.2.2, HO6.out, HBS6.out⟩
                case measure => simp [intOf]; omega
              · simp only [sgLHNaRSo]
                have HX9 : Hid (IsR (((W0.alloc (.cells #[] 82)).alloc (.cells #[.int .i64 (N i), .string (S i)] 82)).drew) (W0.heap.size + 1) 0 [(N i, S i)]) := fun j u hu => by
                  have := cells_new2L (W0.alloc (.cells #[] 82)) (.int .i64 (N i)) (.string (S i)) 82 j u hu
                  rw [Addr.add_mid] at this
                  simpa using this
                have HE0 : Hid ((((W0.alloc (.cells #[] 82)).alloc (.cells #[.int .i64 (N i), .string (S i)] 82)).drew).ownsRow W0.heap.size 82 2 (.slice (some ⟨W0.heap.size, 0, none⟩) 0 0) 0 (lkR [])) := ((kown_empty (Blk.new W0 82 #[]) (Nat.le_refl _)).alloc _).drew
                have HS1 : Hid (Below W0.heap.size W0 (((W0.alloc (.cells #[] 82)).alloc (.cells #[.int .i64 (N i), .string (S i)] 82)).drew)) := (((Below.refl _ W0).alloc (Nat.le_refl _) _).alloc (by simp) _).drew
                have HSZ1 : Hid (W0.heap.size ≤ (((W0.alloc (.cells #[] 82)).alloc (.cells #[.int .i64 (N i), .string (S i)] 82)).drew).heap.size) := HS1.out.size
                have HBS1 : Hid (Below w.heap.size w (((W0.alloc (.cells #[] 82)).alloc (.cells #[.int .i64 (N i), .string (S i)] 82)).drew)) := HB2.out.trans (HS1.out.mono HB2.out.size)
                go_wp2_with fail
                refine ⟨rfl, HBS1.out, plan_force ?_⟩
                simp only [sgLHNaRSo]
                refine wpList_append_lks rfl _ _ 78 rfl W0.heap.size 82 i0 (.agg #[.int .i64 0, .string ⟨#[]⟩]) Tryz.underlying78 hi0 hz0 hz1 hz2 rfl (.slice (some ⟨W0.heap.size, 0, none⟩) 0 0) [] 0 rfl rfl HE0.out go 0 k co (R.take k) HTK.out.1 rfl (HOR.out _ HS1.out) HTK.out.2 HSZ1.out ?_
                intro v4 U4 ho4 hb4 hg4
                rw [Nat.zero_add, List.nil_append] at ho4
                obtain ⟨q4, c4, rfl⟩ := kown_slice ho4
                have HO4 : Hid (U4.ownsRow W0.heap.size 82 2 (.slice q4 k c4) k (lkR (R.take k))) := ho4
                have HS4 : Hid (Below W0.heap.size W0 U4) := HS1.out.trans (hb4.mono (Nat.le_refl _))
                have HX4 : Hid (IsR U4 (W0.heap.size + 1) 0 [(N i, S i)]) := fun j u hu => hg4.cell (HX9.out j u hu) (by simp [Value.ownBlock])
                have HBS4 : Hid (Below w.heap.size w U4) := HB2.out.trans (HS4.out.mono HB2.out.size)
                clear ho4 hb4 hg4
                go_wp2_with fail
                refine ⟨rfl, HBS4.out, plan_force ?_⟩
                simp only [sgLHNaRSo]
                refine wpList_append_lks rfl _ _ 78 rfl W0.heap.size 82 i0 (.agg #[.int .i64 0, .string ⟨#[]⟩]) Tryz.underlying78 hi0 hz0 hz1 hz2 rfl (.slice q4 k c4) (R.take k) k HTK2.out.1 rfl HO4.out (W0.heap.size + 1) 0 1 1 [(N i, S i)] rfl rfl HX4.out HTK2.out.2 HS4.out.size ?_
                intro v5 U5 ho5 hb5 hg5
                obtain ⟨q5, c5, rfl⟩ := kown_slice ho5
                have HO5 : Hid (U5.ownsRow W0.heap.size 82 2 (.slice q5 (k + 1) c5) (k + 1) (lkR (R.take k ++ [(N i, S i)]))) := ho5
                have HS5 : Hid (Below W0.heap.size W0 U5) := HS4.out.trans (hb5.mono (Nat.le_refl _))
                have HBS5 : Hid (Below w.heap.size w U5) := HB2.out.trans (HS5.out.mono HB2.out.size)
                clear ho5 hb5 hg5
                go_wp2_with fail
                refine ⟨rfl, HBS5.out, plan_force ?_⟩
                simp only [sgLHNaRSo]
                refine wpList_append_lks rfl _ _ 78 rfl W0.heap.size 82 i0 (.agg #[.int .i64 0, .string ⟨#[]⟩]) Tryz.underlying78 hi0 hz0 hz1 hz2 rfl (.slice q5 (k + 1) c5) (R.take k ++ [(N i, S i)]) (k + 1) HTK3.out.1 rfl HO5.out go oo (i - k) (co - k) (R.drop k) HTK3.out.2.1 rfl (HOD.out _ HS5.out) HTK3.out.2.2 HS5.out.size ?_
                intro v6 U6 ho6 hb6 hg6
                have HS6 : Hid (Below W0.heap.size W0 U6) := HS5.out.trans (hb6.mono (Nat.le_refl _))
                have HBS6 : Hid (Below w.heap.size w U6) := HB2.out.trans (HS6.out.mono HB2.out.size)
                rw [show k + 1 + (i - k) = i + 1 by omega] at ho6
                obtain ⟨g6, c6, rfl, _⟩ := kown_form ho6 (by omega)
                have HO6 : Hid (U6.ownsRow w.heap.size 82 2 (.slice (some ⟨g6, 0, none⟩) (i + 1) c6) (i + 1) (lkR (R.take k ++ ([(N i, S i)] ++ R.drop k)))) := by
                  have := kown_mono ho6 HB2.out.size
                  rw [List.append_assoc] at this
                  exact this
                clear ho6 hb6 hg6
                go_wp2_with fail
                refine ⟨rfl, HBS6.out, plan_fin ?_⟩
                simp only [sgLHNaRSo]
                go_wp2_with fail
                refine ⟨rfl, ?_⟩
                go_wp2_with fail
                go_roundw
                case rel => exact ⟨i + 1, g6, c6, R.take k ++ ([(N i, S i)] ++ R.drop k), by omega, by first | rfl | go_num | simp, by first | rfl | go_num | simp, HDN.out.1, HDN.out.2.1, HDN.out.2.2, HO6.out, HBS6.out⟩
                case measure => simp [intOf]; omega
            · simp only [Act.put, sgPHNaRSo]
              simp only [sgLHNaRSo]
              have HS0 : Hid (Below W0.heap.size W0 ((W0.alloc (.cells #[.int .i64 (N i), .string (S i)] 82)).drew)) := ((Below.refl _ W0).alloc (Nat.le_refl _) _).drew
              have HBS0 : Hid (Below w.heap.size w ((W0.alloc (.cells #[.int .i64 (N i), .string (S i)] 82)).drew)) := HB2.out.trans (HS0.out.mono HB2.out.size)
              go_wp2_with fail
              refine ⟨rfl, HBS0.out, plan_force ?_⟩
              simp only [sgLHNaRSo]
              have HX9 : Hid (IsR (((W0.alloc (.cells #[.int .i64 (N i), .string (S i)] 82)).alloc (.cells #[] 82)).drew) W0.heap.size 0 [(N i, S i)]) := fun j u hu => by
                have h1 := cells_new2L W0 (.int .i64 (N i)) (.string (S i)) 82 j u hu
                rw [Addr.add_mid] at h1
                exact (((Below.refl _ (W0.alloc (.cells #[.int .i64 (N i), .string (S i)] 82))).alloc (Nat.le_refl _) (.cells #[] 82)).cell (p := ⟨W0.heap.size, 0 + j, none⟩) (by simp)).trans h1
              have HE0 : Hid ((((W0.alloc (.cells #[.int .i64 (N i), .string (S i)] 82)).alloc (.cells #[] 82)).drew).ownsRow W0.heap.size 82 2 (.slice (some ⟨W0.heap.size + 1, 0, none⟩) 0 0) 0 (lkR [])) := by
                have := (kown_empty (size := 2) (B := W0.heap.size) (Blk.new (W0.alloc (.cells #[.int .i64 (N i), .string (S i)] 82)) 82 #[]) (by simp)).drew
                show World.ownsRow _ _ _ _ _ _ _
                simpa [lkR] using this
              have HS1 : Hid (Below W0.heap.size W0 (((W0.alloc (.cells #[.int .i64 (N i), .string (S i)] 82)).alloc (.cells #[] 82)).drew)) := (((Below.refl _ W0).alloc (Nat.le_refl _) _).alloc (by simp) _).drew
              have HSZ1 : Hid (W0.heap.size ≤ (((W0.alloc (.cells #[.int .i64 (N i), .string (S i)] 82)).alloc (.cells #[] 82)).drew).heap.size) := HS1.out.size
              have HBS1 : Hid (Below w.heap.size w (((W0.alloc (.cells #[.int .i64 (N i), .string (S i)] 82)).alloc (.cells #[] 82)).drew)) := HB2.out.trans (HS1.out.mono HB2.out.size)
              go_wp2_with fail
              refine ⟨rfl, HBS1.out, plan_force ?_⟩
              simp only [sgLHNaRSo]
              refine wpList_append_lks rfl _ _ 78 rfl W0.heap.size 82 i0 (.agg #[.int .i64 0, .string ⟨#[]⟩]) Tryz.underlying78 hi0 hz0 hz1 hz2 rfl (.slice (some ⟨(W0.heap.size + 1), 0, none⟩) 0 0) [] 0 rfl rfl HE0.out go 0 k co (R.take k) HTK.out.1 rfl (HOR.out _ HS1.out) HTK.out.2 HSZ1.out ?_
              intro v4 U4 ho4 hb4 hg4
              rw [Nat.zero_add, List.nil_append] at ho4
              obtain ⟨q4, c4, rfl⟩ := kown_slice ho4
              have HO4 : Hid (U4.ownsRow W0.heap.size 82 2 (.slice q4 k c4) k (lkR (R.take k))) := ho4
              have HS4 : Hid (Below W0.heap.size W0 U4) := HS1.out.trans (hb4.mono (Nat.le_refl _))
              have HX4 : Hid (IsR U4 W0.heap.size 0 [(N i, S i)]) := fun j u hu => hg4.cell (HX9.out j u hu) (by simp [Value.ownBlock])
              have HBS4 : Hid (Below w.heap.size w U4) := HB2.out.trans (HS4.out.mono HB2.out.size)
              clear ho4 hb4 hg4
              go_wp2_with fail
              refine ⟨rfl, HBS4.out, plan_force ?_⟩
              simp only [sgLHNaRSo]
              refine wpList_append_lks rfl _ _ 78 rfl W0.heap.size 82 i0 (.agg #[.int .i64 0, .string ⟨#[]⟩]) Tryz.underlying78 hi0 hz0 hz1 hz2 rfl (.slice q4 k c4) (R.take k) k HTK2.out.1 rfl HO4.out W0.heap.size 0 1 1 [(N i, S i)] rfl rfl HX4.out HTK2.out.2 HS4.out.size ?_
              intro v5 U5 ho5 hb5 hg5
              obtain ⟨q5, c5, rfl⟩ := kown_slice ho5
              have HO5 : Hid (U5.ownsRow W0.heap.size 82 2 (.slice q5 (k + 1) c5) (k + 1) (lkR (R.take k ++ [(N i, S i)]))) := ho5
              have HS5 : Hid (Below W0.heap.size W0 U5) := HS4.out.trans (hb5.mono (Nat.le_refl _))
              have HBS5 : Hid (Below w.heap.size w U5) := HB2.out.trans (HS5.out.mono HB2.out.size)
              clear ho5 hb5 hg5
              go_wp2_with fail
              refine ⟨rfl, HBS5.out, plan_force ?_⟩
              simp only [sgLHNaRSo]
              refine wpList_append_lks rfl _ _ 78 rfl W0.heap.size 82 i0 (.agg #[.int .i64 0, .string ⟨#[]⟩]) Tryz.underlying78 hi0 hz0 hz1 hz2 rfl (.slice q5 (k + 1) c5) (R.take k ++ [(N i, S i)]) (k + 1) HTK3.out.1 rfl HO5.out go oo (i - k) (co - k) (R.drop k) HTK3.out.2.1 rfl (HOD.out _ HS5.out) HTK3.out.2.2 HS5.out.size ?_
              intro v6 U6 ho6 hb6 hg6
              have HS6 : Hid (Below W0.heap.size W0 U6) := HS5.out.trans (hb6.mono (Nat.le_refl _))
              have HBS6 : Hid (Below w.heap.size w U6) := HB2.out.trans (HS6.out.mono HB2.out.size)
              rw [show k + 1 + (i - k) = i + 1 by omega] at ho6
              obtain ⟨g6, c6, rfl, _⟩ := kown_form ho6 (by omega)
              have HO6 : Hid (U6.ownsRow w.heap.size 82 2 (.slice (some ⟨g6, 0, none⟩) (i + 1) c6) (i + 1) (lkR (R.take k ++ ([(N i, S i)] ++ R.drop k)))) := by
                have := kown_mono ho6 HB2.out.size
                rw [List.append_assoc] at this
                exact this
              clear ho6 hb6 hg6
              go_wp2_with fail
              refine ⟨rfl, HBS6.out, plan_fin ?_⟩
              simp only [sgLHNaRSo]
              go_wp2_with fail
              refine ⟨rfl, ?_⟩
              go_wp2_with fail
              go_roundw
              case rel => exact ⟨i + 1, g6, c6, R.take k ++ ([(N i, S i)] ++ R.drop k), by omega, by first | rfl | go_num | simp, by first | rfl | go_num | simp, HDN.out.1, HDN.out.2.1, HDN.out.2.2, HO6.out, HBS6.out⟩
              case measure => simp [intOf]; omega
        · have hkz : ¬ (0 : Int) < (k : Int) := by omega
          have HX : Hid (k = 0 ∨ ∃ y, R[k - 1]? = some y ∧ ¬ LkL (N i, S i) y) := .inl (by omega)
          have hu0 : (undef = Value.bool false) = False := by simp [undef]
          have hu1 : (undef = Value.bool true) = False := by simp [undef]
          go_wp2_with fail
          go_quiet (fail)
          generalize hW0 : W1.drewN nq = W0
          have HO2 : Hid (W0.ownsRow w.heap.size 82 2 (.slice (some ⟨go, 0, none⟩) i co) i (lkR R)) := by rw [← hW0]; exact HOW1.out
          have HB2 : Hid (Below w.heap.size w W0) := by rw [← hW0]; exact bdrewN HB1.out nq
          have hco := HO2.out.2
          have hcap : i ≤ co := by
            rcases hco with ⟨h, h2⟩ | ⟨g, cap, cur, h, _, _, h3, _⟩
            · cases h
            · cases h; exact h3
          clear hW0 hco
          obtain ⟨oo, ho3, hoo⟩ : ∃ oo : Nat, (if co = k then some (⟨go, 0, none⟩ : Addr) else some ⟨go, k * 2, none⟩) = some ⟨go, oo, none⟩ ∧ (co = k ∨ oo = 0 + k * 2) := by
            by_cases h : co = k
            · exact ⟨0, by rw [if_pos h], .inl h⟩
            · exact ⟨k * 2, by rw [if_neg h], .inr (by omega)⟩
          have HIR : Hid (IsR W0 go 0 R) := own_isR HO2.out
          have HGO : Hid (go < W0.heap.size) := (HO2.out.lt go rfl).2
          have HOR : Hid (∀ U : World, Below W0.heap.size W0 U → IsR U go 0 (R.take k)) := fun U hU => (HIR.out.take k).below hU HGO.out
          have HOD : Hid (∀ U : World, Below W0.heap.size W0 U → IsR U go oo (R.drop k)) := fun U hU => by
            rcases hoo with h | h
            · have hRl := HR.out.1
              intro j u hu
              rw [List.drop_eq_nil_of_le (by omega)] at hu
              simp [lkR] at hu
            · rw [h]; exact (HIR.out.drop k).below hU HGO.out
          have HTK : Hid (k = (R.take k).length ∧ (([] : List Lk).length + (R.take k).length) * 24 ≤ 140737488355328) := by have := HR.out.1; show _ ∧ _; simp; omega
          have HTK2 : Hid (k = (R.take k).length ∧ ((R.take k).length + [((N i, S i) : Lk)].length) * 24 ≤ 140737488355328) := by have := HR.out.1; show _ ∧ _; simp; omega
          have HTK3 : Hid (k + 1 = (R.take k ++ [((N i, S i) : Lk)]).length ∧ i - k = (R.drop k).length ∧ ((R.take k ++ [((N i, S i) : Lk)]).length + (R.drop k).length) * 24 ≤ 140737488355328) := by have := HR.out.1; show _ ∧ _ ∧ _; simp; omega
          have HDN : Hid ((R.take k ++ ([((N i, S i) : Lk)] ++ R.drop k)).length = i + 1 ∧ SoR (R.take k ++ ([((N i, S i) : Lk)] ++ R.drop k)) ∧ (R.take k ++ ([((N i, S i) : Lk)] ++ R.drop k)).Perm (liR N S (i + 1))) := by
            refine ⟨by have := HR.out.1; simp; omega, soR_put HR.out.2.1 (by rw [HR.out.1]; exact hki) HX.out HLS.out, ?_⟩
            refine (put_perm R _ k).trans ?_
            unfold liR
            rw [List.range_succ, List.map_append]
            exact HR.out.2.2.append_right _
          clear hoo HX
          have hkz2 : (0 : Int) ≤ (k : Int) := by omega
          have hkzi : (k : Int) ≤ (i : Int) := by omega
          have hkzc : (k : Int) ≤ (co : Int) := by omega
          have hizc : (i : Int) ≤ (co : Int) := by omega
          go_wp2_with fail
          refine wp_region_plan (fun U => Below w.heap.size w U) (.yield [1, 2] 3 (.yield [5, 6] 7 (.yield [] 8 (.yield [11, 12] 13 (.fork 0 9 (.fork 4 9 (.force [] 9 (.force [] 10 (.force [] 14 (.fin [15])))) (.force [] 4 (.force [] 10 (.force [] 14 (.fin [15]))))) (.force [] 0 (.force [] 4 (.force [] 10 (.force [] 14 (.fin [15])))))))))) (by kernel_rfl) (by kernel_rfl) HB2.out.drew (plan_yield ?_)
          simp only [sgLHNaRSo]
          go_wp2_with fail
          first
            | refine ⟨rfl, _, .slice (some ⟨go, 0, none⟩) k co, rfl, Or.inl ⟨by rfl, fun U hU => by first | (go_simp; done) | (go_simp; exact ho3)⟩, plan_yield ?_⟩
            | refine ⟨rfl, .slice (some ⟨go, 0, none⟩) k co, Or.inl ⟨by rfl, fun U hU => by first | (go_simp; done) | (go_simp; exact ho3)⟩, plan_yield ?_⟩
          simp only [Act.put, sgPHNaRSo]
          simp only [sgLHNaRSo]
          go_wp2_with fail
          first
            | refine ⟨rfl, _, .pointer (some ⟨b, o + i * 2, none⟩), rfl, Or.inl ⟨by rfl, fun U hU => by first | (go_simp; done) | (go_simp; exact ho3)⟩, plan_yield ?_⟩
            | refine ⟨rfl, .pointer (some ⟨b, o + i * 2, none⟩), Or.inl ⟨by rfl, fun U hU => by first | (go_simp; done) | (go_simp; exact ho3)⟩, plan_yield ?_⟩
          simp only [Act.put, sgPHNaRSo]
          simp only [sgLHNaRSo]
          go_wp2_with fail
          first
            | refine ⟨rfl, _, .agg #[.int .i64 (N i), .string (S i)], rfl, Or.inl ⟨by rfl, fun U hU => by have c8 := (HL.out U hU).1; have c9 := (HL.out U hU).2; go_simp⟩, plan_yield ?_⟩
            | refine ⟨rfl, .agg #[.int .i64 (N i), .string (S i)], Or.inl ⟨by rfl, fun U hU => by have c8 := (HL.out U hU).1; have c9 := (HL.out U hU).2; go_simp⟩, plan_yield ?_⟩
          simp only [Act.put, sgPHNaRSo]
          simp only [sgLHNaRSo]
          go_wp2_with fail
          first
            | refine ⟨rfl, _, .slice (some ⟨go, oo, none⟩) (i - k) (co - k), rfl, Or.inl ⟨by rfl, fun U hU => by first | (go_simp; done) | (go_simp; exact ho3)⟩, plan_fork ?_ ?_⟩
            | refine ⟨rfl, .slice (some ⟨go, oo, none⟩) (i - k) (co - k), Or.inl ⟨by rfl, fun U hU => by first | (go_simp; done) | (go_simp; exact ho3)⟩, plan_fork ?_ ?_⟩
          · simp only [Act.put, sgPHNaRSo]
            simp only [sgLHNaRSo]
            have HE0' : Hid (((W0.alloc (.cells #[] 82)).drew).ownsRow W0.heap.size 82 2 (.slice (some ⟨W0.heap.size, 0, none⟩) 0 0) 0 (lkR [])) := (kown_empty (Blk.new W0 82 #[]) (Nat.le_refl _)).drew
            have HS0 : Hid (Below W0.heap.size W0 ((W0.alloc (.cells #[] 82)).drew)) := ((Below.refl _ W0).alloc (Nat.le_refl _) _).drew
            have HBS0 : Hid (Below w.heap.size w ((W0.alloc (.cells #[] 82)).drew)) := HB2.out.trans (HS0.out.mono HB2.out.size)
            go_wp2_with fail
            refine ⟨rfl, HBS0.out, plan_fork ?_ ?_⟩
            · simp only [sgLHNaRSo]
              have HE0 : Hid _ := HE0'.out
              have HS1 : Hid _ := HS0.out
              have HSZ1 : Hid (W0.heap.size ≤ ((W0.alloc (.cells #[] 82)).drew).heap.size) := HS0.out.size
              refine wpList_append_lks rfl _ _ 78 rfl W0.heap.size 82 i0 (.agg #[.int .i64 0, .string ⟨#[]⟩]) Tryz.underlying78 hi0 hz0 hz1 hz2 rfl (.slice (some ⟨W0.heap.size, 0, none⟩) 0 0) [] 0 rfl rfl HE0.out go 0 k co (R.take k) HTK.out.1 rfl (HOR.out _ HS1.out) HTK.out.2 HSZ1.out ?_
              intro v4 U4 ho4 hb4 hg4
              rw [Nat.zero_add, List.nil_append] at ho4
              obtain ⟨q4, c4, rfl⟩ := kown_slice ho4
              have HO4 : Hid (U4.ownsRow W0.heap.size 82 2 (.slice q4 k c4) k (lkR (R.take k))) := ho4
              have HS4 : Hid (Below W0.heap.size W0 U4) := HS1.out.trans (hb4.mono (Nat.le_refl _))
              have HBS4 : Hid (Below w.heap.size w U4) := HB2.out.trans (HS4.out.mono HB2.out.size)
              clear ho4 hb4 hg4
              go_wp2_with fail
              refine ⟨rfl, HBS4.out, plan_force ?_⟩
              simp only [sgLHNaRSo]
              have HX9 : Hid (IsR (U4.alloc (.cells #[.int .i64 (N i), .string (S i)] 82)) U4.heap.size 0 [(N i, S i)]) := fun j u hu => by
                have := cells_new2L U4 (.int .i64 (N i)) (.string (S i)) 82 j u hu
                rwa [Addr.add_mid] at this
              have HO4' : Hid ((U4.alloc (.cells #[.int .i64 (N i), .string (S i)] 82)).ownsRow W0.heap.size 82 2 (.slice q4 k c4) k (lkR (R.take k))) := HO4.out.alloc _
              have HS4' : Hid (Below W0.heap.size W0 (U4.alloc (.cells #[.int .i64 (N i), .string (S i)] 82))) := HS4.out.alloc HS4.out.size _
              have HBS4' : Hid (Below w.heap.size w (U4.alloc (.cells #[.int .i64 (N i), .string (S i)] 82))) := HB2.out.trans (HS4'.out.mono HB2.out.size)
              go_wp2_with fail
              refine ⟨rfl, HBS4'.out, plan_force ?_⟩
              simp only [sgLHNaRSo]
              clear HO4 HS4 HBS4
              have HO4 : Hid _ := HO4'.out
              have HS4 : Hid _ := HS4'.out
              have HX4 : Hid _ := HX9.out
              refine wpList_append_lks rfl _ _ 78 rfl W0.heap.size 82 i0 (.agg #[.int .i64 0, .string ⟨#[]⟩]) Tryz.underlying78 hi0 hz0 hz1 hz2 rfl (.slice q4 k c4) (R.take k) k HTK2.out.1 rfl HO4.out U4.heap.size 0 1 1 [(N i, S i)] rfl rfl HX4.out HTK2.out.2 HS4.out.size ?_
              intro v5 U5 ho5 hb5 hg5
              obtain ⟨q5, c5, rfl⟩ := kown_slice ho5
              have HO5 : Hid (U5.ownsRow W0.heap.size 82 2 (.slice q5 (k + 1) c5) (k + 1) (lkR (R.take k ++ [(N i, S i)]))) := ho5
              have HS5 : Hid (Below W0.heap.size W0 U5) := HS4.out.trans (hb5.mono (Nat.le_refl _))
              have HBS5 : Hid (Below w.heap.size w U5) := HB2.out.trans (HS5.out.mono HB2.out.size)
              clear ho5 hb5 hg5
              go_wp2_with fail
              refine ⟨rfl, HBS5.out, plan_force ?_⟩
              simp only [sgLHNaRSo]
              refine wpList_append_lks rfl _ _ 78 rfl W0.heap.size 82 i0 (.agg #[.int .i64 0, .string ⟨#[]⟩]) Tryz.underlying78 hi0 hz0 hz1 hz2 rfl (.slice q5 (k + 1) c5) (R.take k ++ [(N i, S i)]) (k + 1) HTK3.out.1 rfl HO5.out go oo (i - k) (co - k) (R.drop k) HTK3.out.2.1 rfl (HOD.out _ HS5.out) HTK3.out.2.2 HS5.out.size ?_
              intro v6 U6 ho6 hb6 hg6
              have HS6 : Hid (Below W0.heap.size W0 U6) := HS5.out.trans (hb6.mono (Nat.le_refl _))
              have HBS6 : Hid (Below w.heap.size w U6) := HB2.out.trans (HS6.out.mono HB2.out.size)
              rw [show k + 1 + (i - k) = i + 1 by omega] at ho6
              obtain ⟨g6, c6, rfl, _⟩ := kown_form ho6 (by omega)
              have HO6 : Hid (U6.ownsRow w.heap.size 82 2 (.slice (some ⟨g6, 0, none⟩) (i + 1) c6) (i + 1) (lkR (R.take k ++ ([(N i, S i)] ++ R.drop k)))) := by
                have := kown_mono ho6 HB2.out.size
                rw [List.append_assoc] at this
                exact this
              clear ho6 hb6 hg6
              go_wp2_with fail
              refine ⟨rfl, HBS6.out, plan_fin ?_⟩
              simp only [sgLHNaRSo]
              go_wp2_with fail
              refine ⟨rfl, ?_⟩
              go_wp2_with fail
              go_roundw
              case rel => exact ⟨i + 1, g6, c6, R.take k ++ ([(N i, S i)] ++ R.drop k), by omega, by first | rfl | go_num | simp, by first | rfl | go_num | simp, HDN.out.1, HDN.out.2.1, HDN.out.2.2, HO6.out, HBS6.out⟩
              case measure => simp [intOf]; omega
            · simp only [sgLHNaRSo]
              have HX9 : Hid (IsR (((W0.alloc (.cells #[] 82)).alloc (.cells #[.int .i64 (N i), .string (S i)] 82)).drew) (W0.heap.size + 1) 0 [(N i, S i)]) := fun j u hu => by
                have := cells_new2L (W0.alloc (.cells #[] 82)) (.int .i64 (N i)) (.string (S i)) 82 j u hu
                rw [Addr.add_mid] at this
                simpa using this
              have HE0 : Hid ((((W0.alloc (.cells #[] 82)).alloc (.cells #[.int .i64 (N i), .string (S i)] 82)).drew).ownsRow W0.heap.size 82 2 (.slice (some ⟨W0.heap.size, 0, none⟩) 0 0) 0 (lkR [])) := ((kown_empty (Blk.new W0 82 #[]) (Nat.le_refl _)).alloc _).drew
              have HS1 : Hid (Below W0.heap.size W0 (((W0.alloc (.cells #[] 82)).alloc (.cells #[.int .i64 (N i), .string (S i)] 82)).drew)) := (((Below.refl _ W0).alloc (Nat.le_refl _) _).alloc (by simp) _).drew
              have HSZ1 : Hid (W0.heap.size ≤ (((W0.alloc (.cells #[] 82)).alloc (.cells #[.int .i64 (N i), .string (S i)] 82)).drew).heap.size) := HS1.out.size
              have HBS1 : Hid (Below w.heap.size w (((W0.alloc (.cells #[] 82)).alloc (.cells #[.int .i64 (N i), .string (S i)] 82)).drew)) := HB2.out.trans (HS1.out.mono HB2.out.size)
              go_wp2_with fail
              refine ⟨rfl, HBS1.out, plan_force ?_⟩
              simp only [sgLHNaRSo]
              refine wpList_append_lks rfl _ _ 78 rfl W0.heap.size 82 i0 (.agg #[.int .i64 0, .string ⟨#[]⟩]) Tryz.underlying78 hi0 hz0 hz1 hz2 rfl (.slice (some ⟨W0.heap.size, 0, none⟩) 0 0) [] 0 rfl rfl HE0.out go 0 k co (R.take k) HTK.out.1 rfl (HOR.out _ HS1.out) HTK.out.2 HSZ1.out ?_
              intro v4 U4 ho4 hb4 hg4
              rw [Nat.zero_add, List.nil_append] at ho4
              obtain ⟨q4, c4, rfl⟩ := kown_slice ho4
              have HO4 : Hid (U4.ownsRow W0.heap.size 82 2 (.slice q4 k c4) k (lkR (R.take k))) := ho4
              have HS4 : Hid (Below W0.heap.size W0 U4) := HS1.out.trans (hb4.mono (Nat.le_refl _))
              have HX4 : Hid (IsR U4 (W0.heap.size + 1) 0 [(N i, S i)]) := fun j u hu => hg4.cell (HX9.out j u hu) (by simp [Value.ownBlock])
              have HBS4 : Hid (Below w.heap.size w U4) := HB2.out.trans (HS4.out.mono HB2.out.size)
              clear ho4 hb4 hg4
              go_wp2_with fail
              refine ⟨rfl, HBS4.out, plan_force ?_⟩
              simp only [sgLHNaRSo]
              refine wpList_append_lks rfl _ _ 78 rfl W0.heap.size 82 i0 (.agg #[.int .i64 0, .string ⟨#[]⟩]) Tryz.underlying78 hi0 hz0 hz1 hz2 rfl (.slice q4 k c4) (R.take k) k HTK2.out.1 rfl HO4.out (W0.heap.size + 1) 0 1 1 [(N i, S i)] rfl rfl HX4.out HTK2.out.2 HS4.out.size ?_
              intro v5 U5 ho5 hb5 hg5
              obtain ⟨q5, c5, rfl⟩ := kown_slice ho5
              have HO5 : Hid (U5.ownsRow W0.heap.size 82 2 (.slice q5 (k + 1) c5) (k + 1) (lkR (R.take k ++ [(N i, S i)]))) := ho5
              have HS5 : Hid (Below W0.heap.size W0 U5) := HS4.out.trans (hb5.mono (Nat.le_refl _))
              have HBS5 : Hid (Below w.heap.size w U5) := HB2.out.trans (HS5.out.mono HB2.out.size)
              clear ho5 hb5 hg5
              go_wp2_with fail
              refine ⟨rfl, HBS5.out, plan_force ?_⟩
              simp only [sgLHNaRSo]
              refine wpList_append_lks rfl _ _ 78 rfl W0.heap.size 82 i0 (.agg #[.int .i64 0, .string ⟨#[]⟩]) Tryz.underlying78 hi0 hz0 hz1 hz2 rfl (.slice q5 (k + 1) c5) (R.take k ++ [(N i, S i)]) (k + 1) HTK3.out.1 rfl HO5.out go oo (i - k) (co - k) (R.drop k) HTK3.out.2.1 rfl (HOD.out _ HS5.out) HTK3.out.2.2 HS5.out.size ?_
              intro v6 U6 ho6 hb6 hg6
              have HS6 : Hid (Below W0.heap.size W0 U6) := HS5.out.trans (hb6.mono (Nat.le_refl _))
              have HBS6 : Hid (Below w.heap.size w U6) := HB2.out.trans (HS6.out.mono HB2.out.size)
              rw [show k + 1 + (i - k) = i + 1 by omega] at ho6
              obtain ⟨g6, c6, rfl, _⟩ := kown_form ho6 (by omega)
              have HO6 : Hid (U6.ownsRow w.heap.size 82 2 (.slice (some ⟨g6, 0, none⟩) (i + 1) c6) (i + 1) (lkR (R.take k ++ ([(N i, S i)] ++ R.drop k)))) := by
                have := kown_mono ho6 HB2.out.size
                rw [List.append_assoc] at this
                exact this
              clear ho6 hb6 hg6
              go_wp2_with fail
              refine ⟨rfl, HBS6.out, plan_fin ?_⟩
              simp only [sgLHNaRSo]
              go_wp2_with fail
              refine ⟨rfl, ?_⟩
              go_wp2_with fail
              go_roundw
              case rel => exact ⟨i + 1, g6, c6, R.take k ++ ([(N i, S i)] ++ R.drop k), by omega, by first | rfl | go_num | simp, by first | rfl | go_num | simp, HDN.out.1, HDN.out.2.1, HDN.out.2.2, HO6.out, HBS6.out⟩
              case measure => simp [intOf]; omega
          · simp only [Act.put, sgPHNaRSo]
            simp only [sgLHNaRSo]
            have HS0 : Hid (Below W0.heap.size W0 ((W0.alloc (.cells #[.int .i64 (N i), .string (S i)] 82)).drew)) := ((Below.refl _ W0).alloc (Nat.le_refl _) _).drew
            have HBS0 : Hid (Below w.heap.size w ((W0.alloc (.cells #[.int .i64 (N i), .string (S i)] 82)).drew)) := HB2.out.trans (HS0.out.mono HB2.out.size)
            go_wp2_with fail
            refine ⟨rfl, HBS0.out, plan_force ?_⟩
            simp only [sgLHNaRSo]
            have HX9 : Hid (IsR (((W0.alloc (.cells #[.int .i64 (N i), .string (S i)] 82)).alloc (.cells #[] 82)).drew) W0.heap.size 0 [(N i, S i)]) := fun j u hu => by
              have h1 := cells_new2L W0 (.int .i64 (N i)) (.string (S i)) 82 j u hu
              rw [Addr.add_mid] at h1
              exact (((Below.refl _ (W0.alloc (.cells #[.int .i64 (N i), .string (S i)] 82))).alloc (Nat.le_refl _) (.cells #[] 82)).cell (p := ⟨W0.heap.size, 0 + j, none⟩) (by simp)).trans h1
            have HE0 : Hid ((((W0.alloc (.cells #[.int .i64 (N i), .string (S i)] 82)).alloc (.cells #[] 82)).drew).ownsRow W0.heap.size 82 2 (.slice (some ⟨W0.heap.size + 1, 0, none⟩) 0 0) 0 (lkR [])) := by
              have := (kown_empty (size := 2) (B := W0.heap.size) (Blk.new (W0.alloc (.cells #[.int .i64 (N i), .string (S i)] 82)) 82 #[]) (by simp)).drew
              show World.ownsRow _ _ _ _ _ _ _
              simpa [lkR] using this
            have HS1 : Hid (Below W0.heap.size W0 (((W0.alloc (.cells #[.int .i64 (N i), .string (S i)] 82)).alloc (.cells #[] 82)).drew)) := (((Below.refl _ W0).alloc (Nat.le_refl _) _).alloc (by simp) _).drew
            have HSZ1 : Hid (W0.heap.size ≤ (((W0.alloc (.cells #[.int .i64 (N i), .string (S i)] 82)).alloc (.cells #[] 82)).drew).heap.size) := HS1.out.size
            have HBS1 : Hid (Below w.heap.size w (((W0.alloc (.cells #[.int .i64 (N i), .string (S i)] 82)).alloc (.cells #[] 82)).drew)) := HB2.out.trans (HS1.out.mono HB2.out.size)
            go_wp2_with fail
            refine ⟨rfl, HBS1.out, plan_force ?_⟩
            simp only [sgLHNaRSo]
            refine wpList_append_lks rfl _ _ 78 rfl W0.heap.size 82 i0 (.agg #[.int .i64 0, .string ⟨#[]⟩]) Tryz.underlying78 hi0 hz0 hz1 hz2 rfl (.slice (some ⟨(W0.heap.size + 1), 0, none⟩) 0 0) [] 0 rfl rfl HE0.out go 0 k co (R.take k) HTK.out.1 rfl (HOR.out _ HS1.out) HTK.out.2 HSZ1.out ?_
            intro v4 U4 ho4 hb4 hg4
            rw [Nat.zero_add, List.nil_append] at ho4
            obtain ⟨q4, c4, rfl⟩ := kown_slice ho4
            have HO4 : Hid (U4.ownsRow W0.heap.size 82 2 (.slice q4 k c4) k (lkR (R.take k))) := ho4
            have HS4 : Hid (Below W0.heap.size W0 U4) := HS1.out.trans (hb4.mono (Nat.le_refl _))
            have HX4 : Hid (IsR U4 W0.heap.size 0 [(N i, S i)]) := fun j u hu => hg4.cell (HX9.out j u hu) (by simp [Value.ownBlock])
            have HBS4 : Hid (Below w.heap.size w U4) := HB2.out.trans (HS4.out.mono HB2.out.size)
            clear ho4 hb4 hg4
            go_wp2_with fail
            refine ⟨rfl, HBS4.out, plan_force ?_⟩
            simp only [sgLHNaRSo]
            refine wpList_append_lks rfl _ _ 78 rfl W0.heap.size 82 i0 (.agg #[.int .i64 0, .string ⟨#[]⟩]) Tryz.underlying78 hi0 hz0 hz1 hz2 rfl (.slice q4 k c4) (R.take k) k HTK2.out.1 rfl HO4.out W0.heap.size 0 1 1 [(N i, S i)] rfl rfl HX4.out HTK2.out.2 HS4.out.size ?_
            intro v5 U5 ho5 hb5 hg5
            obtain ⟨q5, c5, rfl⟩ := kown_slice ho5
            have HO5 : Hid (U5.ownsRow W0.heap.size 82 2 (.slice q5 (k + 1) c5) (k + 1) (lkR (R.take k ++ [(N i, S i)]))) := ho5
            have HS5 : Hid (Below W0.heap.size W0 U5) := HS4.out.trans (hb5.mono (Nat.le_refl _))
            have HBS5 : Hid (Below w.heap.size w U5) := HB2.out.trans (HS5.out.mono HB2.out.size)
            clear ho5 hb5 hg5
            go_wp2_with fail
            refine ⟨rfl, HBS5.out, plan_force ?_⟩
            simp only [sgLHNaRSo]
            refine wpList_append_lks rfl _ _ 78 rfl W0.heap.size 82 i0 (.agg #[.int .i64 0, .string ⟨#[]⟩]) Tryz.underlying78 hi0 hz0 hz1 hz2 rfl (.slice q5 (k + 1) c5) (R.take k ++ [(N i, S i)]) (k + 1) HTK3.out.1 rfl HO5.out go oo (i - k) (co - k) (R.drop k) HTK3.out.2.1 rfl (HOD.out _ HS5.out) HTK3.out.2.2 HS5.out.size ?_
            intro v6 U6 ho6 hb6 hg6
            have HS6 : Hid (Below W0.heap.size W0 U6) := HS5.out.trans (hb6.mono (Nat.le_refl _))
            have HBS6 : Hid (Below w.heap.size w U6) := HB2.out.trans (HS6.out.mono HB2.out.size)
            rw [show k + 1 + (i - k) = i + 1 by omega] at ho6
            obtain ⟨g6, c6, rfl, _⟩ := kown_form ho6 (by omega)
            have HO6 : Hid (U6.ownsRow w.heap.size 82 2 (.slice (some ⟨g6, 0, none⟩) (i + 1) c6) (i + 1) (lkR (R.take k ++ ([(N i, S i)] ++ R.drop k)))) := by
              have := kown_mono ho6 HB2.out.size
              rw [List.append_assoc] at this
              exact this
            clear ho6 hb6 hg6
            go_wp2_with fail
            refine ⟨rfl, HBS6.out, plan_fin ?_⟩
            simp only [sgLHNaRSo]
            go_wp2_with fail
            refine ⟨rfl, ?_⟩
            go_wp2_with fail
            go_roundw
            case rel => exact ⟨i + 1, g6, c6, R.take k ++ ([(N i, S i)] ++ R.drop k), by omega, by first | rfl | go_num | simp, by first | rfl | go_num | simp, HDN.out.1, HDN.out.2.1, HDN.out.2.2, HO6.out, HBS6.out⟩
            case measure => simp [intOf]; omega
    · have i1 : ¬ ((i : Int) < (n : Int)) := by omega
      obtain rfl : i = n := by omega
      go_wp2_with fail
      go_ret
      first | exact ⟨go, co, R, rfl, HR.out.1, HR.out.2.1, HR.out.2.2, HOW.out, HB.out⟩ | exact ⟨go, co, rfl, R, HR.out.1, HR.out.2.1, HR.out.2.2, HOW.out, HB.out⟩
end Go.Proofs.YtimjggkdpmgpjaaGreatDoor
