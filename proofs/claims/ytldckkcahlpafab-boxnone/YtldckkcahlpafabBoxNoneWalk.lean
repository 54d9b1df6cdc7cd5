/-
  The walk of stairlaw4.BoxNone: it returns true, and memory that was there stays as it was.
-/
import Derived.Test.YtldckkcahlpafabBox1
namespace Go.Proofs.Ytldckkcahlpafab.BoxNone
open Go.ChangeShapes Go.WideShapes Go.ChangeAt Go.RowKit
open Go.Proofs.Ytldckkcahlpafab.M Go.Proofs.Ytldckkcahlpafab.Box
set_option linter.unusedVariables false

theorem asked_none : askedL 0 8 = [] := by decide
theorem mask_none : isMask 0 = true := by decide
theorem dig_none {xs : List Int} (h : okAll xs = true) : digE xs 0 = 0 ∧ digV xs 0 = 0 := by
  refine ⟨digE_ok h mask_none, ?_⟩
  rw [digV_ok h mask_none, asked_none]
  rfl
theorem cls_none (s : Int) : clsE s 0 noBank = if isM s = true then 0 else 1 := by
  cases h : isM s with
  | true => rw [clsE_ok h]; exact (dig_none (by decide)).1
  | false => rw [clsE_no h]; rfl

set_option maxHeartbeats 2000000 in
theorem walk (s : Int) (ys : List Int) (bc : Array Value) (w : World) (hbc : bc = bankC ys) (hl : ys.length = 8) :
    Calls Try.prog 3 #[.int .i64 s, .agg bc] w fun e w' => e = .returned (.bool true) ∧ Below w.heap.size w w' := by
  have HB0 := hide (below_new w (.cells bc 23))
  have HG0 := hide (blk_new w (.cells bc 23))
  have HS := hide (show bc.size = 8 by rw [hbc, bankC_size, hl])
  have CL := hide (fun W => close_any s 0 noBank #[.int .i64 0, .int .i64 0, .int .i64 0, .int .i64 0, .int .i64 0, .int .i64 0, .int .i64 0, .int .i64 0] W rfl rfl)
  have OP := hide (fun W => open_any (clsV s 0 noBank) ys bc W hbc hl)
  have BK := hide (fun W => Bank.check_any ys bc W hbc hl)
  have e0 := cls_none s
  clear hbc hl
  cases hs : isM s with
  | false =>
    rw [hs, if_neg (by decide)] at e0
    rw [e0, errV_one] at CL
    have sr := isM_false.1 hs
    have e1 := clsV_no (s := s) (m := 0) (xs := noBank) (by rw [e0]; decide)
    rw [e1] at CL
    unfold boxC at CL
    simp only [] at CL
    clear e0 e1 OP BK hs
    have hd : (decide (s < 0) || decide (1000002 < s)) = true := by
      rw [Bool.or_eq_true, decide_eq_true_iff, decide_eq_true_iff]; omega
    clear sr
    go_enter Try.func3, Try.ntmps3
    go_wp2_with (fail)
    refine (CL.out _).mono ?_
    rintro e w1 ⟨rfl, hb1⟩
    have HB1 := hide (below_on HB0.out hb1)
    clear hb1 HB0 HG0
    go_wp2
    all_goals go_ret
    all_goals exact ⟨rfl, below_on HB1.out (below_new _ _)⟩
  | true =>
    rw [hs, if_pos rfl] at e0
    rw [e0, errV_zero] at CL
    have hb := cls_both e0
    have hm0 : (clsV s 0 noBank).1 = 0 := by rw [clsV_ok e0]
    have ON := hide (fun (h : okAll ys = true) => opn_cls e0 (dig_none h).1 (show digV ys 0 = digV noBank 0 by rw [(dig_none h).2]; rfl))
    have OF := hide (fun (h : okAll ys = false) => opnE_dig (x := clsV s 0 noBank) (xs := ys) hb (by rw [hm0, digE_bad (fun hh => by rw [h] at hh; cases hh.1)]; decide))
    have OV := hide (fun h => opnV_no (x := clsV s 0 noBank) (xs := ys) h)
    clear e0 hb hm0 hs
    obtain ⟨⟨v0, v1, v2⟩, hv⟩ : ∃ v : Int × Int × Int, v = clsV s 0 noBank := ⟨_, rfl⟩
    rw [← hv] at CL OP ON OF OV
    unfold boxC at CL OP
    simp only [] at CL OP
    clear hv
    cases ho : okAll ys with
    | true =>
      obtain ⟨e1, e2⟩ := ON.out ho
      rw [e1, e2, errV_zero] at OP
      clear ON OF OV e1 e2 ho BK
      go_enter Try.func3, Try.ntmps3
      go_wp2_with (fail)
      refine (CL.out _).mono ?_
      rintro e w1 ⟨rfl, hb1⟩
      have HB1 := hide (below_on (below_on HB0.out hb1) (below_new w1 (.cells #[.int .i64 v0, .int .i64 v1, .int .i64 v2] 25)))
      have HG1 := hide (blk_keep (blk_below HG0.out hb1) (.cells #[.int .i64 v0, .int .i64 v1, .int .i64 v2] 25))
      clear hb1 HB0 HG0
      go_wp2_with ((with_reducible refine Bank.wpl_load 3 ?_ ?_ _ ?_ _ _ HG1.out HS.out ?_); rfl; rfl; rfl)
      refine (OP.out _).mono ?_
      rintro e w2 ⟨rfl, hb2⟩
      have HB2 := hide (below_on HB1.out hb2)
      clear hb2 HB1 HG1
      go_wp2
      go_ret
      exact ⟨by simp, HB2.out⟩
    | false =>
      have e1 := OF.out ho
      rw [e1, OV.out (by rw [e1]; decide), errV_one] at OP
      rw [bankE_bad ho, errV_one] at BK
      clear ON OF OV e1 ho
      go_enter Try.func3, Try.ntmps3
      go_wp2_with (fail)
      refine (CL.out _).mono ?_
      rintro e w1 ⟨rfl, hb1⟩
      have HB1 := hide (below_on (below_on HB0.out hb1) (below_new w1 (.cells #[.int .i64 v0, .int .i64 v1, .int .i64 v2] 25)))
      have HG1 := hide (blk_keep (blk_below HG0.out hb1) (.cells #[.int .i64 v0, .int .i64 v1, .int .i64 v2] 25))
      clear hb1 HB0 HG0
      go_wp2_with ((with_reducible refine Bank.wpl_load 3 ?_ ?_ _ ?_ _ _ HG1.out HS.out ?_); rfl; rfl; rfl)
      refine (OP.out _).mono ?_
      rintro e w2 ⟨rfl, hb2⟩
      have HB2 := hide (below_on HB1.out hb2)
      have HG2 := hide (blk_below HG1.out hb2)
      clear hb2 HB1 HG1
      go_wp2_with ((with_reducible refine Bank.wpl_load 3 ?_ ?_ _ ?_ _ _ HG2.out HS.out ?_); rfl; rfl; rfl)
      refine (BK.out _).mono ?_
      rintro e w3 ⟨rfl, hb3⟩
      have HB3 := hide (below_on HB2.out hb3)
      clear hb3 HB2 HG2
      go_wp2
      go_ret
      exact ⟨rfl, HB3.out⟩
end Go.Proofs.Ytldckkcahlpafab.BoxNone
