/-
  The walk of stairlaw1.RuleTells: it returns true, and memory that was there stays as it was.
-/
import Derived.Test.YtemklmgcbcjnaaaDoorRule2
import Derived.Test.YtemklmgcbcjnaaaDoorRef2
import Derived.Test.YtemklmgcbcjnaaaDoorAs
namespace Go.Proofs.YtemklmgcbcjnaaaDoor.RuleTells
open Go.ChangeShapes Go.WideShapes Go.ChangeAt Go.RowKit
open Go.Proofs.YtemklmgcbcjnaaaDoor.M
set_option linter.unusedVariables false

/-- What the walk carries: the bank lies where it was laid, and all that was there is as it was. -/
def Kept (w0 : World) (bc : Array Value) (W : World) : Prop := Below w0.heap.size w0 W ∧ W.heap[w0.heap.size]? = some (.cells bc 24)
theorem Kept.below {w0 W W' : World} {bc : Array Value} (h : Kept w0 bc W) (hb : Below W.heap.size W W') : Kept w0 bc W' := ⟨below_on h.1 hb, blk_below h.2 hb⟩

set_option maxRecDepth 20000 in
set_option maxHeartbeats 4000000 in
theorem walk (a : Option Addr) (n cap : Nat) (l : List (Int × Value × List Int)) (ys : List Int) (bc : Array Value) (w : World) (hn : n = l.length) (hm : n ≤ maxLen) (hcap : n ≤ cap) (hr : RulesIn w a l) (hbc : bc = bankC ys) (hl : ys.length = 8) (hg : As.Handle w) :
    Calls Tryd.prog 3 #[.slice a n cap, .agg bc] w fun e w' => e = .returned (.bool true) ∧ Below w.heap.size w w' := by
  have HK0 : Hid (Kept w bc (w.alloc (.cells bc 24))) := ⟨below_new _ _, blk_new _ _⟩
  have HS := hide (show bc.size = 8 by rw [hbc, bankC_size, hl])
  have RR := hide (fun (W : World) (h : Below w.heap.size w W) => Ref.rules_any a l n cap W hn hm (hr.below h))
  have CK := hide (fun (W : World) (h : Below w.heap.size w W) => Rule.check_any a l n cap W hn hm hcap (hr.below h))
  have RM := hide (fun (W : World) (h : Below w.heap.size w W) (ho : rulesE (rulesL l) = 0) => Ref.mask_ok a l n cap W hn hm (hr.below h) ho)
  have KM := hide (fun (W : World) (h : Below w.heap.size w W) => Rule.mask_any a l n cap W hn hm hcap (hr.below h))
  have RB := hide (fun W => Ref.bank_any ys bc W hbc hl)
  have RF := hide (fun (W : World) (h : Below w.heap.size w W) (ho : rulesE (rulesL l) = 0) => Ref.fits_ok a l n cap ys bc W hn hm (hr.below h) ho hbc hl)
  have KF := hide (fun (W : World) (h : Below w.heap.size w W) => Rule.fits_any a l n cap ys bc W hn hm hcap (hr.below h) hbc hl)
  have HH := hide (fun (W : World) (h : Below w.heap.size w W) => hg.below h)
  clear hn hm hcap hr hbc hl hg
  by_cases hz : rulesE (rulesL l) = 0
  · have HZ := hide hz
    have MA := hide (maskA_ok hz)
    have FE := hide (fitE_ok (b := ys) hz)
    rw [hz] at RR CK
    simp only [hz, MA.out] at KM
    rw [errV_zero] at CK
    clear hz
    generalize maskV (rulesL l) = mv at *
    go_enter Tryd.func3, Tryd.ntmps3
    go_wp2_with (fail)
    refine (RR.out _ HK0.out.1).mono ?_
    rintro e w1 ⟨rfl, hb1⟩
    have HK1 := hide (HK0.out.below hb1)
    clear hb1 HK0 RR
    go_wp2_with (fail)
    refine (CK.out _ HK1.out.1).mono ?_
    rintro e w2 ⟨rfl, hb2⟩
    have HK2 := hide (HK1.out.below hb2)
    clear hb2 HK1 CK
    go_wp2_with (fail)
    refine (As.same_nil _ _).mono ?_
    rintro e w2' ⟨rfl, hw⟩
    rw [hw]
    clear hw
    go_wp2_with (fail)
    refine (RM.out _ HK2.out.1 HZ.out).mono ?_
    rintro e w3 ⟨rfl, hb3⟩
    have HK3 := hide (HK2.out.below hb3)
    clear hb3 HK2 RM
    go_wp2_with (fail)
    refine (KM.out _ HK3.out.1).mono ?_
    rintro e w4 ⟨rfl, hb4⟩
    have HK4 := hide (HK3.out.below hb4)
    rw [errV_zero]
    clear hb4 HK3 KM
    go_wp2_with (fail)
    refine (As.same_nil _ _).mono ?_
    rintro e w4' ⟨rfl, hw⟩
    rw [hw]
    clear hw
    have HG4 : Hid (w4.heap[w.heap.size]? = some (.cells bc 24)) := HK4.out.2
    go_wp2_with ((with_reducible refine Bank.wpl_load 3 ?_ ?_ _ ?_ _ _ HG4.out HS.out ?_); rfl; rfl; rfl)
    refine (RB.out _).mono ?_
    rintro e w5 ⟨rfl, hb5⟩
    have HK5 := hide (HK4.out.below hb5)
    clear hb5 HK4 RB
    by_cases hB : bankE ys = 0
    · have FZ := hide (FE.out.trans hB)
      have FA := hide (fitA_ok FZ.out)
      rw [FZ.out, FA.out, errV_zero] at KF
      rw [hB]
      clear hB
      generalize fitsB (rulesL l) ys = fb at *
      have HG5 : Hid (w5.heap[w.heap.size]? = some (.cells bc 24)) := HK5.out.2
      go_wp2_with ((with_reducible refine Bank.wpl_load 3 ?_ ?_ _ ?_ _ _ HG5.out HS.out ?_); rfl; rfl; rfl)
      refine (RF.out _ HK5.out.1 HZ.out).mono ?_
      rintro e w6 ⟨rfl, hb6⟩
      have HK6 := hide (HK5.out.below hb6)
      clear hb6 HK5 RF
      have HG6 : Hid (w6.heap[w.heap.size]? = some (.cells bc 24)) := HK6.out.2
      go_wp2_with ((with_reducible refine Bank.wpl_load 3 ?_ ?_ _ ?_ _ _ HG6.out HS.out ?_); rfl; rfl; rfl)
      refine (KF.out _ HK6.out.1).mono ?_
      rintro e w7 ⟨rfl, hb7⟩
      have HK7 := hide (HK6.out.below hb7)
      clear hb7 HK6 KF
      go_wp2_with (fail)
      refine (As.same_nil _ _).mono ?_
      rintro e w7' ⟨rfl, hw⟩
      rw [hw]
      clear hw
      go_wp2
      go_ret
      exact ⟨by first | rfl | simp, HK7.out.1⟩
    · have FN := hide (fitA_no (l := rulesL l) (b := ys) (fun e => hB (FE.out.symm.trans e)))
      simp only [FN.out, FE.out] at KF
      have HG5 : Hid (w5.heap[w.heap.size]? = some (.cells bc 24)) := HK5.out.2
      go_wp2_with ((with_reducible refine Bank.wpl_load 3 ?_ ?_ _ ?_ _ _ HG5.out HS.out ?_); rfl; rfl; rfl)
      refine (KF.out _ HK5.out.1).mono ?_
      rintro e w7 ⟨rfl, hb7⟩
      have HK7 := hide (HK5.out.below hb7)
      clear hb7 HK5 KF
      go_wp2_with (fail)
      refine (As.same_is _ _ _ rfl (HH.out _ HK7.out.1)).mono ?_
      rintro e w8 ⟨rfl, hb8⟩
      have HK8 := hide (HK7.out.below hb8)
      clear hb8 HK7
      go_wp2
      go_ret
      exact ⟨by first | rfl | simp, HK8.out.1⟩
  · have MN := hide (maskA_no hz)
    have FE := hide (fitE_no (b := ys) hz)
    have FN := hide (fitA_no (l := rulesL l) (b := ys) (fun e => hz (FE.out.symm.trans e)))
    simp only [MN.out] at KM
    simp only [FN.out, FE.out] at KF
    generalize rulesE (rulesL l) = z at *
    go_enter Tryd.func3, Tryd.ntmps3
    go_wp2_with (fail)
    refine (RR.out _ HK0.out.1).mono ?_
    rintro e w1 ⟨rfl, hb1⟩
    have HK1 := hide (HK0.out.below hb1)
    clear hb1 HK0 RR
    go_wp2_with (fail)
    refine (CK.out _ HK1.out.1).mono ?_
    rintro e w2 ⟨rfl, hb2⟩
    have HK2 := hide (HK1.out.below hb2)
    clear hb2 HK1 CK
    go_wp2_with (fail)
    refine (As.same_is _ _ _ rfl (HH.out _ HK2.out.1)).mono ?_
    rintro e w3 ⟨rfl, hb3⟩
    have HK3 := hide (HK2.out.below hb3)
    clear hb3 HK2
    go_wp2_with (fail)
    refine (KM.out _ HK3.out.1).mono ?_
    rintro e w4 ⟨rfl, hb4⟩
    have HK4 := hide (HK3.out.below hb4)
    clear hb4 HK3 KM
    go_wp2_with (fail)
    refine (As.same_is _ _ _ rfl (HH.out _ HK4.out.1)).mono ?_
    rintro e w5 ⟨rfl, hb5⟩
    have HK5 := hide (HK4.out.below hb5)
    clear hb5 HK4
    have HG5 : Hid (w5.heap[w.heap.size]? = some (.cells bc 24)) := HK5.out.2
    go_wp2_with ((with_reducible refine Bank.wpl_load 3 ?_ ?_ _ ?_ _ _ HG5.out HS.out ?_); rfl; rfl; rfl)
    refine (KF.out _ HK5.out.1).mono ?_
    rintro e w7 ⟨rfl, hb7⟩
    have HK7 := hide (HK5.out.below hb7)
    clear hb7 HK5 KF
    go_wp2_with (fail)
    refine (As.same_is _ _ _ rfl (HH.out _ HK7.out.1)).mono ?_
    rintro e w8 ⟨rfl, hb8⟩
    have HK8 := hide (HK7.out.below hb8)
    clear hb8 HK7
    go_wp2
    go_ret
    exact ⟨by first | rfl | simp, HK8.out.1⟩
end Go.Proofs.YtemklmgcbcjnaaaDoor.RuleTells
