/-
  Contracts of package key's IsSecret, IsPublic, power and Public over this translation: what each returns, and that memory stays as it was.
-/
import Derived.Test.YtdaedmcmcapjkaaDoorRows
import Derived.Test.YtdaedmcmcapjkaaDoorKeyForm
import Derived.WalkKit
import Derived.ProofKit
import Derived.Handy
namespace Go.Proofs.YtdaedmcmcapjkaaDoor.Key
open Go.ChangeShapes Go.WideShapes Go.ChangeAt Go.RowKit
open Go.Proofs.YtdaedmcmcapjkaaDoor.M
set_option linter.unusedVariables false

theorem ret_one {k : IntKind} {a b : Int} (h : a = b) : Ending.returned (.int k a) = .returned (.int k b) := by rw [h]

theorem ret_true {b : Bool} (h : b = true) : Ending.returned (.bool b) = .returned (.bool true) := by rw [h]

theorem public_is (n : Int) (w : World) :
    Calls Tryd.prog 57 #[.int .i64 n] w fun e w' => e = .returned (.bool (inB n)) ∧ w' = w := by
  by_cases h0 : 1 ≤ n
  · by_cases h1 : n < 1543
    · rw [inB_iff.2 ⟨h0, h1⟩]
      go_enter Tryd.func57, Tryd.ntmps57
      go_wp2
      go_ret
      exact ⟨rfl, rfl⟩
    · rw [inB_not.2 (by omega)]
      go_enter Tryd.func57, Tryd.ntmps57
      go_wp2
      go_ret
      exact ⟨rfl, rfl⟩
  · rw [inB_not.2 (by omega)]
    go_enter Tryd.func57, Tryd.ntmps57
    go_wp2
    go_ret
    exact ⟨rfl, rfl⟩

set_option maxHeartbeats 400000 in
theorem power_nat (a n : Nat) (w : World) (ha : a < 1543) (hn : n < 1000) :
    Calls Tryd.prog 59 #[.int .i64 a, .int .i64 n] w fun e w' => e = .returned (.int .i64 (pw a n : Nat)) ∧ w' = w := by
  go_enter Tryd.func59, Tryd.ntmps59
  go_wp2
  go_loop [5, 7] (fun p i => ∃ k : Nat, k ≤ n ∧ i = .int .i64 k ∧ p = .int .i64 (pw a k : Nat)) (fun _ i => n - (intOf i).toNat)
  case atStart => exact ⟨0, by omega, rfl, by rw [pw_zero]; rfl⟩
  case round =>
    obtain ⟨k, hk, rfl, rfl⟩ := hrel
    by_cases hlt : k < n
    · have hlz : (k : Int) < n := by omega
      have E := hide (pw_succ a k)
      have hq := pw_lt a k
      generalize hqe : pw a k = q at *
      have hm0 : 0 ≤ (q : Int) * a := Int.mul_nonneg (by omega) (by omega)
      have hm1 : (q : Int) * a ≤ 1543 * 1543 := Int.mul_le_mul (by omega) (by omega) (by omega) (by omega)
      go_wp2
      go_round
      case rel => exact ⟨k + 1, by omega, by go_num, by rw [E.out]; simp [Int.natCast_mul]⟩
      case measure => simp [intOf]; omega
    · have hkn : k = n := by omega
      have hlz : ¬ (k : Int) < n := by omega
      go_wp2
      go_ret
      exact ⟨rfl, rfl⟩
theorem power_any (a n : Int) (w : World) (ha0 : 0 ≤ a) (ha : a < 1543) (hn0 : 0 ≤ n) (hn : n < 1000) :
    Calls Tryd.prog 59 #[.int .i64 a, .int .i64 n] w fun e w' => e = .returned (.int .i64 (pwZ a n)) ∧ w' = w := by
  obtain ⟨a, rfl⟩ : ∃ k : Nat, a = k := ⟨a.toNat, by omega⟩
  obtain ⟨n, rfl⟩ : ∃ k : Nat, n = k := ⟨n.toNat, by omega⟩
  exact power_nat a n w (by omega) (by omega)

end Go.Proofs.YtdaedmcmcapjkaaDoor.Key
