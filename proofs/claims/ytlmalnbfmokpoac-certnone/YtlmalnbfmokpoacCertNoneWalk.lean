/-
  The walk of stairlaw4.CertNone: it returns true, and memory that was there stays as it was.
-/
import Derived.Test.YtlmalnbfmokpoacCert1
namespace Go.Proofs.Ytlmalnbfmokpoac.CertNone
open Go.ChangeShapes Go.WideShapes Go.ChangeAt Go.RowKit
open Go.Proofs.Ytlmalnbfmokpoac.M
set_option linter.unusedVariables false

set_option maxHeartbeats 1000000 in
theorem walk (root : Int) (w : World) :
    Calls Try.prog 5 #[.int .i64 root] w fun e w' => e = .returned (.bool true) ∧ Below w.heap.size w w' := by
  have LA := hide (fun W => Cert.last_any root none [] 0 0 W rfl (by unfold maxLen; omega) (RRow.nil _ _))
  obtain ⟨e1, e2⟩ := lastV_nil root
  rw [e1, e2] at LA
  clear e1 e2
  cases hi : inB root with
  | true =>
    rw [hi, if_pos rfl, if_pos rfl, errV_zero] at LA
    clear hi
    go_enter Try.func5, Try.ntmps5
    go_wp2_with (fail)
    refine (LA.out _).mono ?_
    rintro e w1 ⟨rfl, hb1⟩
    have HB := hide hb1
    clear hb1
    go_wp2
    go_ret
    exact ⟨by first | rfl | simp, HB.out⟩
  | false =>
    rw [hi, if_neg (by decide), if_neg (by decide), errV_one] at LA
    have hr := inB_not.1 hi
    clear hi
    by_cases h1 : root < 1
    · clear hr
      go_enter Try.func5, Try.ntmps5
      go_wp2_with (fail)
      refine (LA.out _).mono ?_
      rintro e w1 ⟨rfl, hb1⟩
      have HB := hide hb1
      clear hb1
      go_wp2
      go_ret
      exact ⟨by first | rfl | simp, HB.out⟩
    · have h2 : 1542 < root := by omega
      clear hr
      go_enter Try.func5, Try.ntmps5
      go_wp2_with (fail)
      refine (LA.out _).mono ?_
      rintro e w1 ⟨rfl, hb1⟩
      have HB := hide hb1
      clear hb1
      go_wp2
      go_ret
      exact ⟨by first | rfl | simp, HB.out⟩
end Go.Proofs.Ytlmalnbfmokpoac.CertNone
