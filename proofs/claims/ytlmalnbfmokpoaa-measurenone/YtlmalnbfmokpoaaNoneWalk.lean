/-
  The walk of stairlaw4.MeasureNone: it returns true for every int, and memory that was there stays as it was.
-/
import Derived.Test.YtlmalnbfmokpoaaMeasure
namespace Go.Proofs.Ytlmalnbfmokpoaa.NoneWalk
open Go.ChangeShapes Go.WideShapes Go.ChangeAt Go.RowKit
open Go.Proofs.Ytlmalnbfmokpoaa.M Go.Proofs.Ytlmalnbfmokpoaa.Measure
set_option linter.unusedVariables false

theorem of_empty (w : World) : Calls Try.prog 10 #[.string ByteArray.empty] w fun e w' => e = .returned (.tuple #[.int .i64 1, .nilIface]) ∧ w' = w := of_ok ByteArray.empty w (by decide)
theorem all_nil (w : World) : Calls Try.prog 9 #[.slice none 0 0] w fun e w' => e = .returned (.tuple #[.int .i64 0, .nilIface]) ∧ w' = w := all_ok none [] 0 0 w rfl (by omega) (Or.inl rfl) rfl
theorem one_ok (b : Nat) (n : Int) (w : World) (h : w.cell? ⟨b, 0, none⟩ = some (.int .i64 n)) (h0 : 0 ≤ n) (h1 : n < 1000003) :
    Calls Try.prog 9 #[.slice (some ⟨b, 0, none⟩) 1 1] w fun e w' => e = .returned (.tuple #[.int .i64 ((n + 1) % 1000003), .nilIface]) ∧ w' = w := by
  have hm := isM_iff.2 ⟨h0, h1⟩
  refine (all_ok (some ⟨b, 0, none⟩) [n] 1 1 w rfl (by omega) (Row.one b n w h) (by simp [okAll, hm])).mono ?_
  rintro e w' ⟨he, hw⟩
  exact ⟨by rw [he]; simp [allFrom, stp], hw⟩
theorem one_bad (b : Nat) (n : Int) (w : World) (h : w.cell? ⟨b, 0, none⟩ = some (.int .i64 n)) (h0 : ¬ (0 ≤ n ∧ n < 1000003)) :
    Calls Try.prog 9 #[.slice (some ⟨b, 0, none⟩) 1 1] w fun e w' => e = .returned (.tuple #[.int .i64 0, .iface 23 (.int .i64 1)]) ∧ w' = w := by
  have hm := isM_false.2 h0
  exact all_bad (some ⟨b, 0, none⟩) [n] 1 1 w rfl (by omega) (Row.one b n w h) (by simp [okAll, hm])

theorem walk (n : Int) (w : World) :
    Calls Try.prog 5 #[.int .i64 n] w fun e w' => e = .returned (.bool true) ∧ Below w.heap.size w w' := by
  by_cases h0 : 0 ≤ n
  · by_cases h1 : n < 1000003
    · go_enter Try.func5, Try.ntmps5
      go_wp2_with (fail)
      refine (of_empty _).mono ?_
      rintro e w1 ⟨rfl, rfl⟩
      go_wp2_with (fail)
      refine (all_nil _).mono ?_
      rintro e w2 ⟨rfl, rfl⟩
      go_wp2_with (fail)
      refine (one_ok _ _ _ (by simp) h0 h1).mono ?_
      rintro e w3 ⟨rfl, rfl⟩
      go_wp2
      go_ret
      exact ⟨rfl, by go_grown⟩
    · have h2 : 1000002 < n := by omega
      go_enter Try.func5, Try.ntmps5
      go_wp2_with (fail)
      refine (of_empty _).mono ?_
      rintro e w1 ⟨rfl, rfl⟩
      go_wp2_with (fail)
      refine (all_nil _).mono ?_
      rintro e w2 ⟨rfl, rfl⟩
      go_wp2_with (fail)
      refine (one_bad _ n _ (by simp) (by omega)).mono ?_
      rintro e w3 ⟨rfl, rfl⟩
      go_wp2
      go_ret
      exact ⟨rfl, by go_grown⟩
  · go_enter Try.func5, Try.ntmps5
    go_wp2_with (fail)
    refine (of_empty _).mono ?_
    rintro e w1 ⟨rfl, rfl⟩
    go_wp2_with (fail)
    refine (all_nil _).mono ?_
    rintro e w2 ⟨rfl, rfl⟩
    go_wp2_with (fail)
    refine (one_bad _ n _ (by simp) (by omega)).mono ?_
    rintro e w3 ⟨rfl, rfl⟩
    go_wp2
    go_ret
    exact ⟨rfl, by go_grown⟩
end Go.Proofs.Ytlmalnbfmokpoaa.NoneWalk
