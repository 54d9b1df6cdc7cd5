/-
  The walk of stairlaw4.QuoteNone: it returns true, and memory that was there stays as it was.
-/
import Derived.Test.YtanoikekehepjaaQuote1
namespace Go.Proofs.Ytanoikekehepjaa.QuoteNone
open Go.ChangeShapes Go.WideShapes Go.ChangeAt Go.RowKit
open Go.Proofs.Ytanoikekehepjaa.M Go.Proofs.Ytanoikekehepjaa.Quote
set_option linter.unusedVariables false

theorem asked_none : askedL 0 8 = [] := by decide
theorem mask_none : isMask 0 = true := by decide
theorem dig_none {xs : List Int} (h : okAll xs = true) : digE xs 0 = 0 ∧ digV xs 0 = 0 := by
  refine ⟨digE_ok h mask_none, ?_⟩
  rw [digV_ok h mask_none, asked_none]
  rfl

set_option maxHeartbeats 2000000 in
theorem walk (x k n : Int) (ys : List Int) (bc : Array Value) (w : World) (hbc : bc = bankC ys) (hl : ys.length = 8) :
    Calls Try.prog 3 #[.int .i64 x, .int .i64 k, .int .i64 n, .agg bc] w fun e w' => e = .returned (.bool true) ∧ Below w.heap.size w w' := by
  have HB0 := hide (below_new w (.cells bc 23))
  have HG0 := hide (blk_new w (.cells bc 23))
  have HS := hide (show bc.size = 8 by rw [hbc, bankC_size, hl])
  have MK := hide (fun W => make_any x k n 0 noBank #[.int .i64 0, .int .i64 0, .int .i64 0, .int .i64 0, .int .i64 0, .int .i64 0, .int .i64 0, .int .i64 0] W rfl rfl)
  have TL := hide (fun W => tells_any (quoV x k n 0 noBank) ys bc W hbc hl)
  have BK := hide (fun W => Bank.check_any ys bc W hbc hl)
  clear hbc hl
  rcases quoE_is x k n 0 noBank with hE | hE
  · have Q0 := quo_num hE
    have Q2 := (quo_dig hE).trans (dig_none (xs := noBank) (by decide)).2
    have TE := hide (tel_e (ys := ys) hE)
    have TB := hide (fun (h : okAll ys = true) => tel_b hE (dig_none h).1)
    have TN := hide (fun h => telB_no (q := quoV x k n 0 noBank) (xs := ys) h)
    rw [hE, errV_zero] at MK
    obtain ⟨⟨q0, q1, q2, q3, q4⟩, hv⟩ : ∃ v, v = quoV x k n 0 noBank := ⟨_, rfl⟩
    rw [← hv] at MK TL TE TB Q0 Q2 TN
    unfold quoC at MK TL
    simp only [] at MK TL Q0 Q2
    subst Q0 Q2
    clear hv hE
    cases ho : okAll ys with
    | true =>
      rw [TE.out, (dig_none ho).1, errV_zero, TB.out ho, (dig_none ho).2, show digV noBank 0 = 0 from rfl, decide_eq_true rfl] at TL
      clear ho TE TB TN BK
      go_enter Try.func3, Try.ntmps3
      go_wp2_with (fail)
      refine (MK.out _).mono ?_
      rintro e w1 ⟨rfl, hb1⟩
      have HB1 := hide (below_on (below_on HB0.out hb1) (below_new w1 (.cells #[.int .i64 q0, .int .i64 q1, .int .i64 0, .int .i64 q3, .int .i64 q4] 27)))
      have HG1 := hide (blk_keep (blk_below HG0.out hb1) (.cells #[.int .i64 q0, .int .i64 q1, .int .i64 0, .int .i64 q3, .int .i64 q4] 27))
      have HQ1 := hide (blk_new w1 (.cells #[.int .i64 q0, .int .i64 q1, .int .i64 0, .int .i64 q3, .int .i64 q4] 27))
      clear hb1 HB0 HG0
      go_wp2_with ((with_reducible refine Bank.wpl_load 7 ?_ ?_ _ ?_ _ _ HG1.out HS.out ?_); rfl; rfl; rfl)
      refine (TL.out _).mono ?_
      rintro e w2 ⟨rfl, hb2⟩
      have HB2 := hide (below_on HB1.out hb2)
      obtain ⟨r0, r1, r2, r3, r4⟩ := quin_cells (blk_below HQ1.out hb2)
      clear hb2 HB1 HG1 HQ1
      go_wp2
      go_ret
      exact ⟨by first | rfl | simp, HB2.out⟩
    | false =>
      have e1 : digE ys 0 = 1 := digE_bad (fun h => by rw [ho] at h; cases h.1)
      rw [TE.out, e1, errV_one] at TL
      rw [TN.out (by rw [TE.out, e1]; decide)] at TL
      rw [bankE_bad ho, errV_one] at BK
      clear ho TE TB TN e1
      go_enter Try.func3, Try.ntmps3
      go_wp2_with (fail)
      refine (MK.out _).mono ?_
      rintro e w1 ⟨rfl, hb1⟩
      have HB1 := hide (below_on (below_on HB0.out hb1) (below_new w1 (.cells #[.int .i64 q0, .int .i64 q1, .int .i64 0, .int .i64 q3, .int .i64 q4] 27)))
      have HG1 := hide (blk_keep (blk_below HG0.out hb1) (.cells #[.int .i64 q0, .int .i64 q1, .int .i64 0, .int .i64 q3, .int .i64 q4] 27))
      clear hb1 HB0 HG0
      go_wp2_with ((with_reducible refine Bank.wpl_load 7 ?_ ?_ _ ?_ _ _ HG1.out HS.out ?_); rfl; rfl; rfl)
      refine (TL.out _).mono ?_
      rintro e w2 ⟨rfl, hb2⟩
      have HB2 := hide (below_on HB1.out hb2)
      have HG2 := hide (blk_below HG1.out hb2)
      clear hb2 HB1 HG1
      go_wp2_with ((with_reducible refine Bank.wpl_load 7 ?_ ?_ _ ?_ _ _ HG2.out HS.out ?_); rfl; rfl; rfl)
      refine (BK.out _).mono ?_
      rintro e w3 ⟨rfl, hb3⟩
      have HB3 := hide (below_on HB2.out hb3)
      clear hb3 HB2 HG2
      go_wp2
      go_ret
      exact ⟨rfl, HB3.out⟩
  · rw [hE, errV_one, quoV_no (by rw [hE]; decide)] at MK
    unfold quoC at MK
    simp only [] at MK
    clear hE TL BK
    go_enter Try.func3, Try.ntmps3
    go_wp2_with (fail)
    refine (MK.out _).mono ?_
    rintro e w1 ⟨rfl, hb1⟩
    have HB1 := hide (below_on HB0.out hb1)
    clear hb1 HB0 HG0
    go_wp2
    go_ret
    exact ⟨rfl, below_on HB1.out (below_new _ _)⟩
end Go.Proofs.Ytanoikekehepjaa.QuoteNone
