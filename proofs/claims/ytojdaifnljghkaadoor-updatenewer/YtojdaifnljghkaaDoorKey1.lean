/-
  Contracts of package key's IsSecret, IsPublic, power and Public over this translation: what each returns, and that memory stays as it was.
-/
import Derived.Test.YtojdaifnljghkaaDoorRows
import Derived.Test.YtojdaifnljghkaaDoorKeyForm
import Derived.WalkKit
import Derived.ProofKit
import Derived.Handy
namespace Go.Proofs.YtojdaifnljghkaaDoor.Key
open Go.ChangeShapes Go.WideShapes Go.ChangeAt Go.RowKit
open Go.Proofs.YtojdaifnljghkaaDoor.M
set_option linter.unusedVariables false

theorem ret_one {k : IntKind} {a b : Int} (h : a = b) : Ending.returned (.int k a) = .returned (.int k b) := by rw [h]

theorem ret_true {b : Bool} (h : b = true) : Ending.returned (.bool b) = .returned (.bool true) := by rw [h]

theorem secret_any (n : Int) (w : World) :
    Calls Tryd.prog 33 #[.int .i64 n] w fun e w' => e = .returned (.bool (secB n)) ∧ w' = w := by
  by_cases h0 : 1 ≤ n
  · by_cases h1 : n < 257
    · rw [secB_iff.2 ⟨h0, h1⟩]
      go_enter Tryd.func33, Tryd.ntmps33
      go_wp2
      go_ret
      exact ⟨rfl, rfl⟩
    · rw [secB_not.2 (by omega)]
      go_enter Tryd.func33, Tryd.ntmps33
      go_wp2
      go_ret
      exact ⟨rfl, rfl⟩
  · rw [secB_not.2 (by omega)]
    go_enter Tryd.func33, Tryd.ntmps33
    go_wp2
    go_ret
    exact ⟨rfl, rfl⟩

theorem public_is (n : Int) (w : World) :
    Calls Tryd.prog 39 #[.int .i64 n] w fun e w' => e = .returned (.bool (inB n)) ∧ w' = w := by
  by_cases h0 : 1 ≤ n
  · by_cases h1 : n < 1543
    · rw [inB_iff.2 ⟨h0, h1⟩]
      go_enter Tryd.func39, Tryd.ntmps39
      go_wp2
      go_ret
      exact ⟨rfl, rfl⟩
    · rw [inB_not.2 (by omega)]
      go_enter Tryd.func39, Tryd.ntmps39
      go_wp2
      go_ret
      exact ⟨rfl, rfl⟩
  · rw [inB_not.2 (by omega)]
    go_enter Tryd.func39, Tryd.ntmps39
    go_wp2
    go_ret
    exact ⟨rfl, rfl⟩

set_option maxHeartbeats 400000 in
theorem power_nat (a n : Nat) (w : World) (ha : a < 1543) (hn : n < 1000) :
    Calls Tryd.prog 34 #[.int .i64 a, .int .i64 n] w fun e w' => e = .returned (.int .i64 (pw a n : Nat)) ∧ w' = w := by
  go_enter Tryd.func34, Tryd.ntmps34
  go_wp2
  go_loop [5, 7] (fun p i => ∃ k : Nat, k ≤ n ∧ i = .int .i64 k ∧ p = .int .i64 (pw a k : Nat)) (fun _ i => n - (intOf i).toNat)
  case atStart => exact ⟨0, by omega, rfl, by rw [pw_zero]; rfl⟩
  case round =>
    obtain ⟨k, hk, rfl, rfl⟩ := hrel
    by_cases hlt : k < n
    · have hlz : (k : Int) < n := by omega
      have E := hide (pw_succ a k)
      have hq := pw_lt a k
      generalize hqe : pw a k = q at *
      have hm0 : 0 ≤ (q : Int) * a := Int.mul_nonneg (by omega) (by omega)
      have hm1 : (q : Int) * a ≤ 1543 * 1543 := Int.mul_le_mul (by omega) (by omega) (by omega) (by omega)
      go_wp2
      go_round
      case rel => exact ⟨k + 1, by omega, by go_num, by rw [E.out]; simp [Int.natCast_mul]⟩
      case measure => simp [intOf]; omega
    · have hkn : k = n := by omega
      have hlz : ¬ (k : Int) < n := by omega
      go_wp2
      go_ret
      exact ⟨rfl, rfl⟩
theorem power_any (a n : Int) (w : World) (ha0 : 0 ≤ a) (ha : a < 1543) (hn0 : 0 ≤ n) (hn : n < 1000) :
    Calls Tryd.prog 34 #[.int .i64 a, .int .i64 n] w fun e w' => e = .returned (.int .i64 (pwZ a n)) ∧ w' = w := by
  obtain ⟨a, rfl⟩ : ∃ k : Nat, a = k := ⟨a.toNat, by omega⟩
  obtain ⟨n, rfl⟩ : ∃ k : Nat, n = k := ⟨n.toNat, by omega⟩
  exact power_nat a n w (by omega) (by omega)

theorem public_ok (x : Int) (w : World) (h : secB x = true) :
    Calls Tryd.prog 17 #[.int .i64 x] w fun e w' => e = .returned (.tuple #[.int .i64 (pwZ 64 x), .nilIface]) ∧ w' = w := by
  have hr := secB_iff.1 h
  obtain ⟨h0, h1⟩ := hr
  go_enter Tryd.func17, Tryd.ntmps17
  go_wp2_with (first | (go_at_call 33; refine (secret_any _ _).mono ?_; rintro e w' ⟨rfl, rfl⟩) | (go_at_call 34; refine (power_any _ _ _ (by omega) (by omega) (by omega) (by omega)).mono ?_; rintro e w' ⟨rfl, rfl⟩))
  go_ret2
  exact ⟨rfl, rfl⟩
theorem public_no (x : Int) (w : World) (h : secB x = false) :
    Calls Tryd.prog 17 #[.int .i64 x] w fun e w' => e = .returned (.tuple #[.int .i64 0, .iface 72 (.int .i64 1)]) ∧ w' = w := by
  go_enter Tryd.func17, Tryd.ntmps17
  go_wp2_with (go_at_call 33; refine (secret_any _ _).mono ?_; rintro e w' ⟨rfl, rfl⟩)
  go_ret2
  exact ⟨rfl, rfl⟩
theorem public_any (x : Int) (w : World) :
    Calls Tryd.prog 17 #[.int .i64 x] w fun e w' => e = .returned (.tuple #[.int .i64 (pubV x), errV 72 (pubC x)]) ∧ w' = w := by
  cases h : secB x with
  | true => rw [pubV_ok h, pubC_ok h]; exact public_ok x w h
  | false => rw [pubV_no h, pubC_no h]; exact public_no x w h
end Go.Proofs.YtojdaifnljghkaaDoor.Key
