/-
  The walk of stairlaw4.RuleNone: it returns true, and memory that was there stays as it was.
-/
import Derived.Test.YtemklmgcbcjnaaaRule2
namespace Go.Proofs.Ytemklmgcbcjnaaa.RuleNone
open Go.ChangeShapes Go.WideShapes Go.ChangeAt Go.RowKit
open Go.Proofs.Ytemklmgcbcjnaaa.M
set_option linter.unusedVariables false

set_option maxHeartbeats 2000000 in
theorem walk (ys : List Int) (bc : Array Value) (w : World) (hbc : bc = bankC ys) (hl : ys.length = 8) :
    Calls Try.prog 4 #[.agg bc] w fun e w' => e = .returned (.bool true) ∧ Below w.heap.size w w' := by
  have HB0 := hide (below_new w (.cells bc 24))
  have HG0 := hide (blk_new w (.cells bc 24))
  have HS := hide (show bc.size = 8 by rw [hbc, bankC_size, hl])
  have KF := hide (fun W => Rule.fits_any none [] 0 0 ys bc W rfl (by unfold maxLen; omega) (Nat.le_refl _) (RulesIn.nil _ _) hbc hl)
  have KM := hide (fun W => Rule.mask_any none [] 0 0 W rfl (by unfold maxLen; omega) (Nat.le_refl _) (RulesIn.nil _ _))
  have BK := hide (fun W => Bank.check_any ys bc W hbc hl)
  have z0 : rulesE (rulesL []) = 0 := rfl
  have m0 : maskA (rulesL []) = 0 := rfl
  rw [z0, m0, errV_zero] at KM
  have FE := fitE_ok (b := ys) z0
  clear hbc hl z0 m0
  by_cases hB : bankE ys = 0
  · have FZ := FE.trans hB
    have fa : fitA (rulesL []) ys = true := by rw [fitA_ok FZ]; rfl
    rw [FZ, fa, errV_zero] at KF
    clear FE FZ fa hB BK
    go_enter Try.func4, Try.ntmps4
    go_wp2_with ((with_reducible refine Bank.wpl_load 1 ?_ ?_ _ ?_ _ _ HG0.out HS.out ?_); rfl; rfl; rfl)
    refine (KF.out _).mono ?_
    rintro e w1 ⟨rfl, hb1⟩
    have HB1 := hide (below_on HB0.out hb1)
    clear hb1 HB0 HG0
    go_wp2_with (fail)
    refine (KM.out _).mono ?_
    rintro e w2 ⟨rfl, hb2⟩
    have HB2 := hide (below_on HB1.out hb2)
    clear hb2 HB1
    go_wp2
    go_ret
    exact ⟨rfl, HB2.out⟩
  · have FN := fitA_no (l := rulesL []) (b := ys) (fun e => hB (FE.symm.trans e))
    rw [FE, FN, errV_not hB] at KF
    rw [errV_not hB] at BK
    clear FE FN hB
    generalize bankE ys = z at *
    go_enter Try.func4, Try.ntmps4
    go_wp2_with ((with_reducible refine Bank.wpl_load 1 ?_ ?_ _ ?_ _ _ HG0.out HS.out ?_); rfl; rfl; rfl)
    refine (KF.out _).mono ?_
    rintro e w1 ⟨rfl, hb1⟩
    have HB1 := hide (below_on HB0.out hb1)
    have HG1 := hide (blk_below HG0.out hb1)
    clear hb1 HB0 HG0
    go_wp2_with (fail)
    refine (KM.out _).mono ?_
    rintro e w2 ⟨rfl, hb2⟩
    have HB2 := hide (below_on HB1.out hb2)
    have HG2 := hide (blk_below HG1.out hb2)
    clear hb2 HB1 HG1
    go_wp2_with ((with_reducible refine Bank.wpl_load 1 ?_ ?_ _ ?_ _ _ HG2.out HS.out ?_); rfl; rfl; rfl)
    refine (BK.out _).mono ?_
    rintro e w3 ⟨rfl, hb3⟩
    have HB3 := hide (below_on HB2.out hb3)
    clear hb3 HB2 HG2
    go_wp2
    go_ret
    exact ⟨rfl, HB3.out⟩
end Go.Proofs.Ytemklmgcbcjnaaa.RuleNone
