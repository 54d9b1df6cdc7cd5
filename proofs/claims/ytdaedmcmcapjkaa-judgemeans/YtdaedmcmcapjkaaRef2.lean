/-
  Contracts of what package stairref1 says on banks (Bank, Asks, Digest, Digested): each returns what the plain mathematics says, and memory that was there stays as it was.
-/
import Derived.Test.YtdaedmcmcapjkaaRef1
import Derived.Test.YtdaedmcmcapjkaaBank4
namespace Go.Proofs.Ytdaedmcmcapjkaa.Ref
open Go.ChangeShapes Go.WideShapes Go.ChangeAt Go.RowKit
open Go.Proofs.Ytdaedmcmcapjkaa.M Go.Proofs.Ytdaedmcmcapjkaa.Bank
set_option linter.unusedVariables false

theorem bit_beq (m : Int) (k : Nat) : bit m k = (m / 2 ^ k % 2 == 1) := by
  unfold bit
  exact Bool.eq_iff_iff.2 (by simp)
theorem half (m : Int) (k : Nat) : m / 2 ^ k / 2 = m / 2 ^ (k + 1) := by
  rw [Int.ediv_ediv_of_nonneg (Int.pow_nonneg (by decide)), Int.pow_succ]
theorem half_range (m : Int) (k : Nat) (h0 : 0 ≤ m) (h1 : m ≤ 255) : 0 ≤ m / 2 ^ k ∧ m / 2 ^ k ≤ 255 := by
  have hp : (0 : Int) < 2 ^ k := Int.pow_pos (by decide)
  refine ⟨Int.ediv_nonneg h0 (by omega), ?_⟩
  exact Int.le_trans (Int.ediv_le_self _ h0) h1

set_option maxHeartbeats 1000000 in
theorem asks_any (m : Int) (n : Nat) (w : World) (h0 : 0 ≤ m) (h1 : m ≤ 255) (hn : n ≤ 8) :
    Calls Try.prog 13 #[.int .i64 m, .int .i64 n] w fun e w' => e = .returned (.bool (bit m n)) ∧ w' = w := by
  go_enter Try.func13, Try.ntmps13
  go_wp2
  go_loop [0, 5] (fun s0 s5 => ∃ k : Nat, k ≤ n ∧ s5 = .int .i64 k ∧ s0 = .int .i64 (m / 2 ^ k)) (fun _ i => n - (intOf i).toNat)
  case atStart => exact ⟨0, by omega, rfl, by simp⟩
  case round =>
    obtain ⟨k, hk, rfl, rfl⟩ := hrel
    have hr := half_range m k h0 h1
    have E := hide (half m k)
    have EB := hide (bit_beq m k)
    generalize m / 2 ^ k = q at hr E EB ⊢
    obtain ⟨r0, r1⟩ := hr
    by_cases hlt : k < n
    · go_wp2
      go_round
      case rel => exact ⟨k + 1, by omega, by go_num, by rw [← E.out]⟩
      case measure => simp [intOf]; omega
    · have hkn : k = n := by omega
      subst hkn
      go_wp2
      go_ret
      exact ⟨by rw [EB.out]; rfl, rfl⟩

end Go.Proofs.Ytdaedmcmcapjkaa.Ref
