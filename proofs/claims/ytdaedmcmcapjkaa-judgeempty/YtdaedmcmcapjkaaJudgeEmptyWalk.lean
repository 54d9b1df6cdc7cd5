/-
  The walk of stairlaw4.JudgeEmpty: it returns true, and memory that was there stays as it was.
-/
import Derived.Test.YtdaedmcmcapjkaaJudgeLaw
namespace Go.Proofs.Ytdaedmcmcapjkaa.JudgeEmpty
open Go.ChangeShapes Go.WideShapes Go.ChangeAt Go.RowKit
open Go.Proofs.Ytdaedmcmcapjkaa.M Go.Proofs.Ytdaedmcmcapjkaa.Judge
set_option linter.unusedVariables false

theorem errV_no {T : TypeId} {k : Int} (h : ¬ k = 0) : errV T k = .iface T (.int .i64 k) := by unfold errV; rw [if_neg h]
theorem walk (SL : SureLaw) (pub n : Int) (a : Option Addr) (l : List (Int × Int)) (nl cap : Nat) (w : World) (hn : nl = l.length) (hm : nl ≤ maxLen) (hr : RRow 2 evV w a l) :
    Calls Try.prog 4 #[.int .i64 pub, .int .i64 n, .slice a nl cap] w fun e w' => e = .returned (.bool true) ∧ Below w.heap.size w w' := by
  have SU := hide (SL pub (n, 0, 0, 0, 0) n a l nl cap none [] 0 0 w hn hm hr rfl (by unfold maxLen; omega) (Nat.le_refl _) (RulesIn.nil _ _))
  rw [sur_quo (chq_empty pub n n), errV_no (chq_empty pub n n)] at SU
  simp only [] at SU
  generalize chqE pub (n, 0, 0, 0, 0) n = ce at *
  clear SL hn hm hr
  go_enter Try.func4, Try.ntmps4
  go_wp2_with (fail)
  refine SU.out.mono ?_
  rintro e w1 ⟨rfl, hb1⟩
  have HB1 := hide hb1
  clear hb1
  go_wp2
  go_ret
  exact ⟨rfl, HB1.out⟩
end Go.Proofs.Ytdaedmcmcapjkaa.JudgeEmpty
