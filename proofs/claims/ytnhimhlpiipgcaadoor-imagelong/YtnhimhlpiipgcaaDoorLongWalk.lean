/-
  The walk of stairlaw4.ImageLong: it returns true for every two ints, and memory that was there stays as it was.
-/
import Derived.Test.YtnhimhlpiipgcaaDoorImg1
import Derived.Test.YtnhimhlpiipgcaaDoorAs
namespace Go.Proofs.YtnhimhlpiipgcaaDoor.Long
open Go.ChangeShapes Go.WideShapes Go.ChangeAt Go.RowKit
open Go.Proofs.YtnhimhlpiipgcaaDoor.M Go.Proofs.YtnhimhlpiipgcaaDoor.Image
set_option linter.unusedVariables false

/-- The first k letters of twelve. -/
def few (k : Nat) : ByteArray := ByteArray.extract { data := #[97, 98, 99, 100, 101, 102, 103, 104, 105, 106, 107, 108] } 0 k
theorem few_let : ∀ k : Fin 13, letS (few k.val) = true ∧ (few k.val).size = k.val := by decide +kernel
theorem few_is {k : Nat} (h : k ≤ 12) : letS (few k) = true ∧ (few k).size = k := few_let ⟨k, by omega⟩

set_option maxHeartbeats 4000000 in
theorem walk (n v : Int) (w : World) (hg : As.Handle w) :
    Calls Tryd.prog 5 #[.int .i64 n, .int .i64 v] w fun e w' => e = .returned (.bool true) ∧ Below w.heap.size w w' := by
  by_cases h0 : n < 0
  · go_enter Tryd.func5, Tryd.ntmps5
    go_wp2
    go_ret
    exact ⟨rfl, Below.refl _ _⟩
  · by_cases h12 : 12 < n
    · go_enter Tryd.func5, Tryd.ntmps5
      go_wp2
      go_ret
      exact ⟨rfl, Below.refl _ _⟩
    · obtain ⟨k, rfl⟩ : ∃ k : Nat, n = k := ⟨n.toNat, by omega⟩
      have hk : k ≤ 12 := by omega
      obtain ⟨f1, f2⟩ := few_is hk
      have F1 := hide f1
      have F2 := hide f2
      have F3 := hide (show letS { data := #[] } = true by decide)
      clear f1 f2
      have hk2 : (k : Int) ≤ 12 := by omega
      go_enter Tryd.func5, Tryd.ntmps5
      go_wp2_with (fail)
      refine (check_any (few k) { data := #[] } v _ (by rw [F2.out]; omega) (by decide)).mono ?_
      rintro e w1 ⟨rfl, hb1⟩
      have HH := hide (hg.below hb1)
      have HB1 := hide hb1
      clear hb1
      by_cases hk0 : k = 0
      · have E := hide (imgE_shape (nm := few k) (cd := { data := #[] }) (v := v) (Or.inl (by rw [F2.out, hk0])))
        subst hk0
        rw [E.out]
        go_wp2_with (fail)
        refine (As.same_is 3 3 _ rfl HH.out).mono ?_
        rintro e w2 ⟨rfl, hb2⟩
        go_wp2
        go_ret
        exact ⟨rfl, below_on HB1.out hb2⟩
      · have hz : ¬ (k : Int) = 0 := by omega
        have N0 := hide (show ¬ (few k).size = 0 by rw [F2.out]; exact hk0)
        clear hk0
        by_cases h8 : 8 < k
        · have E := hide (imgE_full (v := v) N0.out F1.out F3.out (Or.inl (by rw [F2.out]; exact h8)))
          have hz8 : (8 : Int) < k := by omega
          rw [E.out]
          clear h8
          go_wp2_with (fail)
          refine (As.same_is 4 4 _ rfl HH.out).mono ?_
          rintro e w2 ⟨rfl, hb2⟩
          go_wp2
          go_ret
          exact ⟨rfl, below_on HB1.out hb2⟩
        · have hz8 : ¬ (8 : Int) < k := by omega
          have NF := hide (show ¬ (8 < (few k).size ∨ 8 < ({ data := #[] } : ByteArray).size) by rw [F2.out]; intro h; rcases h with h | h; · exact h8 h
                                                                                                 · exact absurd h (by decide))
          clear h8
          by_cases hv : v < 1
          · have E := hide (imgE_range N0.out F1.out F3.out NF.out (Or.inl hv))
            rw [E.out]
            rw [errV_one]
            go_wp2
            go_ret
            exact ⟨rfl, HB1.out⟩
          · by_cases hv2 : 1000 < v
            · have E := hide (imgE_range N0.out F1.out F3.out NF.out (Or.inr hv2))
              have hv3 : ¬ v ≤ 1000 := by omega
              rw [E.out]
              rw [errV_one]
              go_wp2
              go_ret
              exact ⟨by show Ending.returned (.bool (!decide (v ≤ 1000))) = _; rw [decide_eq_false (by omega)]; rfl, HB1.out⟩
            · have E := hide (imgE_none (v := v) N0.out F1.out F3.out NF.out (by omega))
              rw [E.out]
              rw [errV_zero]
              go_wp2
              go_ret
              exact ⟨rfl, HB1.out⟩
end Go.Proofs.YtnhimhlpiipgcaaDoor.Long
