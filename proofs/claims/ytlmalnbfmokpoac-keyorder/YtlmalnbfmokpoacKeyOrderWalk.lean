/-
  The walk of stairlaw4.KeyOrder: it returns true, and memory stays as it was.
-/
import Derived.Test.YtlmalnbfmokpoacKey1
namespace Go.Proofs.Ytlmalnbfmokpoac.KeyOrder
open Go.ChangeShapes Go.WideShapes Go.ChangeAt Go.RowKit
open Go.Proofs.Ytlmalnbfmokpoac.M Go.Proofs.Ytlmalnbfmokpoac.Key
set_option linter.unusedVariables false

set_option maxHeartbeats 1000000 in
theorem walk (x y : Int) (w : World) :
    Calls Try.prog 3 #[.int .i64 x, .int .i64 y] w fun e w' => e = .returned (.bool true) ∧ Below w.heap.size w w' := by
  cases hx : secB x with
  | false =>
    have hr := secB_not.1 hx
    cases hy : secB y with
    | false =>
      by_cases h1 : x < 1
      · go_enter Try.func3, Try.ntmps3
        go_wp2_with (go_at_call 6; refine (public_no _ _ (by assumption)).mono ?_; rintro e w' ⟨rfl, rfl⟩)
        go_ret
        exact ⟨rfl, Below.refl _ _⟩
      · have h2 : 256 < x := by omega
        go_enter Try.func3, Try.ntmps3
        go_wp2_with (go_at_call 6; refine (public_no _ _ (by assumption)).mono ?_; rintro e w' ⟨rfl, rfl⟩)
        go_ret
        exact ⟨rfl, Below.refl _ _⟩
    | true =>
      by_cases h1 : x < 1
      · go_enter Try.func3, Try.ntmps3
        go_wp2_with (go_at_call 6; (first | refine (public_no _ _ (by assumption)).mono ?_ | refine (public_ok _ _ (by assumption)).mono ?_); rintro e w' ⟨rfl, rfl⟩)
        go_ret
        exact ⟨rfl, Below.refl _ _⟩
      · have h2 : 256 < x := by omega
        go_enter Try.func3, Try.ntmps3
        go_wp2_with (go_at_call 6; (first | refine (public_no _ _ (by assumption)).mono ?_ | refine (public_ok _ _ (by assumption)).mono ?_); rintro e w' ⟨rfl, rfl⟩)
        go_ret
        exact ⟨rfl, Below.refl _ _⟩
  | true =>
    cases hy : secB y with
    | false =>
      go_enter Try.func3, Try.ntmps3
      go_wp2_with (go_at_call 6; (first | refine (public_no _ _ (by assumption)).mono ?_ | refine (public_ok _ _ (by assumption)).mono ?_); rintro e w' ⟨rfl, rfl⟩)
      go_ret
      exact ⟨rfl, Below.refl _ _⟩
    | true =>
      obtain ⟨k1, k2⟩ := keys_unlike hx hy
      have K1 := hide k1
      have PX := hide (fun W => public_ok x W hx)
      have PY := hide (fun W => public_ok y W hy)
      have K2 := hide (show (pwZ 64 x != 1) = true from bne_iff_ne.2 k2)
      clear k2
      clear k1 hx hy
      generalize pwZ 64 x = a at *
      generalize pwZ 64 y = b at *
      go_enter Try.func3, Try.ntmps3
      go_wp2_with (fail)
      refine (PX.out _).mono ?_
      rintro e w1 ⟨rfl, rfl⟩
      go_wp2_with (fail)
      refine (PY.out _).mono ?_
      rintro e w2 ⟨rfl, rfl⟩
      by_cases he : x = y
      · have hab : a = b := by have := K1.out; rw [beq_iff_eq.2 he] at this; exact beq_iff_eq.1 this
        subst hab
        subst he
        go_wp2
        go_ret
        exact ⟨ret_true K2.out, Below.refl _ _⟩
      · have hab : ¬ a = b := fun h => he (by have := K1.out; rw [beq_iff_eq.2 h] at this; exact beq_iff_eq.1 this.symm)
        go_wp2
        go_ret
        exact ⟨ret_true K2.out, Below.refl _ _⟩
end Go.Proofs.Ytlmalnbfmokpoac.KeyOrder
