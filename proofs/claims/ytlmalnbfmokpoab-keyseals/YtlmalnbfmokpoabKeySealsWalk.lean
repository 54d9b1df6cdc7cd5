/-
  The walk of stairlaw1.KeySeals: it returns true, and memory that was there stays as it was.
-/
import Derived.Test.YtlmalnbfmokpoabKey3
import Derived.Test.YtlmalnbfmokpoabKeyRef1
namespace Go.Proofs.Ytlmalnbfmokpoab.KeySeals
open Go.ChangeShapes Go.WideShapes Go.ChangeAt Go.RowKit
open Go.Proofs.Ytlmalnbfmokpoab.M Go.Proofs.Ytlmalnbfmokpoab.Key
set_option linter.unusedVariables false

theorem pw_first : pwZ 64 1 = 64 := by decide +kernel
theorem public_one (w : World) : Calls Try.prog 8 #[.int .i64 1] w fun e w' => e = .returned (.tuple #[.int .i64 64, .nilIface]) ∧ w' = w := by
  refine (public_ok 1 w rfl).mono ?_
  rintro e w' ⟨rfl, rfl⟩
  exact ⟨by rw [pw_first], rfl⟩

set_option maxHeartbeats 2000000 in
theorem walk_no (x k m other n : Int) (w : World) (h : ¬ sigC x k m = 0) :
    Calls Try.prog 4 #[.int .i64 x, .int .i64 k, .int .i64 m, .int .i64 other, .int .i64 n] w fun e w' => e = .returned (.bool true) ∧ Below w.heap.size w w' := by
  have SG := hide (fun W => sign_any x k m W)
  have hc : sigC x k m = 1 := by
    unfold sigC at h ⊢
    split
    · rename_i g; rw [if_pos g] at h; exact absurd rfl h
    · rfl
  rw [hc, errV_one] at SG
  unfold sealC at SG
  generalize sigP x k m = p at *
  generalize sigA x k m = a at *
  clear h hc
  go_enter Try.func4, Try.ntmps4
  go_wp2_with (fail)
  refine (public_one _).mono ?_
  rintro e w1 ⟨rfl, rfl⟩
  go_wp2_with (fail)
  refine (SG.out _).mono ?_
  rintro e w2 ⟨rfl, hb2⟩
  have HB2 := hide (below_on hb2 (below_new w2 (.cells #[.int .i64 p, .int .i64 a] 34)))
  clear hb2
  go_wp2
  go_ret
  exact ⟨rfl, HB2.out⟩

set_option maxRecDepth 20000 in
set_option maxHeartbeats 4000000 in
theorem walk_ok (x k m other n : Int) (w : World) (h : sigC x k m = 0) :
    Calls Try.prog 4 #[.int .i64 x, .int .i64 k, .int .i64 m, .int .i64 other, .int .i64 n] w fun e w' => e = .returned (.bool true) ∧ Below w.heap.size w w' := by
  obtain ⟨hx, hk, hm⟩ := sigC_zero h
  have xr := secB_iff.1 hx
  obtain ⟨x0, x1⟩ := xr
  have qi := pwZ_in x
  have pi := pwZ_in k
  have SG := hide (fun W => sign_any x k m W)
  have SN := hide (fun W => sign_any x k n W)
  have PX := hide (fun W => public_ok x W hx)
  have QM := hide (inB_isM qi)
  have PM := hide (inB_isM pi)
  have C1 := hide (fun W => check_any (pwZ 64 x) m (pwZ 64 k) (sigA x k m) W)
  have C2 := hide (fun W => check_any (pwZ 64 x) m (pwZ 64 k) other W)
  have HM := hide hm
  rw [h, errV_zero, sigP_ok hx hk hm] at SG
  have F1 := formB_iff.2 ⟨qi, pi, hm, sigA_ans (x := x) (k := k) (m := m)⟩
  rw [chkC_ok F1, chkB_ok F1, says_own hx hk hm sigA_ans, decide_eq_true rfl, errV_zero] at C1
  have a0 := (ansB_iff.1 (sigA_ans (x := x) (k := k) (m := m))).1
  have a1 := (ansB_iff.1 (sigA_ans (x := x) (k := k) (m := m))).2
  have b0 := (ansB_iff.1 (sigA_ans (x := x) (k := k) (m := n))).1
  have b1 := (ansB_iff.1 (sigA_ans (x := x) (k := k) (m := n))).2
  have q0 := (inB_iff.1 qi).1
  have q1 : pwZ 64 x ≤ 1542 := by have := (inB_iff.1 qi).2; omega
  have C2' : Hid ((chkC (pwZ 64 x) m (pwZ 64 k) other = 0 ∧ chkB (pwZ 64 x) m (pwZ 64 k) other = decide (other = sigA x k m)) ∨ chkC (pwZ 64 x) m (pwZ 64 k) other = 1) := by
    cases ho : ansB other with
    | true =>
      have F2 := formB_iff.2 ⟨qi, pi, hm, ho⟩
      exact Or.inl ⟨chkC_ok F2, by rw [chkB_ok F2, says_own hx hk hm ho]⟩
    | false => exact Or.inr (chkC_no (form_no (Or.inr (Or.inr (Or.inr ho)))))
  have NN : Hid ((isM n = true ∧ sigC x k n = 0 ∧ sigP x k n = pwZ 64 k ∧ Int.tmod ((sigH x k m - sigH x k n + 257) * x - (sigA x k m - sigA x k n + 257)) 257 = 0) ∨ sigC x k n = 1) := by
    cases hn : isM n with
    | true => exact Or.inl ⟨rfl, sigC_ok hx hk hn, sigP_ok hx hk hn, two_tell hx hk hm hn⟩
    | false => exact Or.inr (sig_no (Or.inr (Or.inr hn))).1
  have c0 := chV_lo (pwZ 64 k) (pwZ 64 x) m
  have c1 := chV_hi (pwZ 64 k) (pwZ 64 x) m
  have d0 := chV_lo (pwZ 64 k) (pwZ 64 x) n
  have d1 := chV_hi (pwZ 64 k) (pwZ 64 x) n
  unfold sigH at NN
  have R1 := hide (fun W => Ref.challenge_ok (pwZ 64 k) (pwZ 64 x) m W PM.out QM.out HM.out)
  have R2 := hide (fun (W : World) (g : isM n = true) => Ref.challenge_ok (pwZ 64 k) (pwZ 64 x) n W PM.out QM.out g)
  unfold sealC at SG SN C1 C2
  generalize chV (pwZ 64 k) (pwZ 64 x) m = c at *
  generalize chV (pwZ 64 k) (pwZ 64 x) n = d at *
  generalize chkC (pwZ 64 x) m (pwZ 64 k) other = oc at *
  generalize chkB (pwZ 64 x) m (pwZ 64 k) other = ob at *
  generalize pwZ 64 x = q at *
  generalize pwZ 64 k = p at *
  generalize sigA x k m = a at *
  generalize sigA x k n = b at *
  generalize sigP x k n = p2 at *
  generalize sigC x k n = nc at *
  have hm0 : 0 ≤ (c - d + 257) * x := Int.mul_nonneg (by omega) (by omega)
  have hm1 : (c - d + 257) * x ≤ 514 * 257 := Int.mul_le_mul (by omega) (by omega) (by omega) (by omega)
  clear h hx hk hm F1 qi pi
  go_enter Try.func4, Try.ntmps4
  go_wp2_with (fail)
  refine (public_one _).mono ?_
  rintro e w1 ⟨rfl, rfl⟩
  go_wp2_with (fail)
  refine (SG.out _).mono ?_
  rintro e w2 ⟨rfl, hb2⟩
  have HB2 := hide (below_on hb2 (below_new w2 (.cells #[.int .i64 p, .int .i64 a] 34)))
  have HG2 := hide (blk_new w2 (.cells #[.int .i64 p, .int .i64 a] 34))
  clear hb2
  go_wp2_with (fail)
  refine (PX.out _).mono ?_
  rintro e w3 ⟨rfl, rfl⟩
  go_wp2_with (fail)
  refine (C1.out _).mono ?_
  rintro e w4 ⟨rfl, hb4⟩
  have HB4 := hide (below_on HB2.out hb4)
  have HG4 := hide (blk_below HG2.out hb4)
  clear hb4 HB2 HG2
  obtain ⟨r0, r1⟩ := seal_cells HG4.out
  go_wp2_with (fail)
  refine (C2.out _).mono ?_
  rintro e w5 ⟨rfl, hb5⟩
  have HB5 := hide (below_on HB4.out hb5)
  have HG5 := hide (blk_below HG4.out hb5)
  clear hb5 HB4 HG4 r0 r1
  obtain ⟨r0, r1⟩ := seal_cells HG5.out
  go_upto_region 14 with (fail)
  go_cut [3, 14, 18, 69, 76, 77, 78, 88] (fun _ _ _ _ _ _ _ s88 w' => s88 = .bool false ∧ w' = w5)
  case first =>
    rcases C2'.out with ⟨rfl, ho⟩ | rfl
    · rw [ho, errV_zero]
      clear ho
      by_cases he : other = a
      · rw [decide_eq_true he]
        go_wp2
        go_meet
        exact ⟨by first | rfl | simp [he], rfl⟩
      · rw [decide_eq_false he]
        go_wp2
        go_meet
        exact ⟨by first | rfl | simp [he], rfl⟩
    · rw [errV_one]
      go_wp2
      go_meet
      exact ⟨rfl, rfl⟩
  case rest =>
  obtain ⟨rfl, rfl⟩ := hcut
  obtain ⟨wa, hwa⟩ : ∃ wa, wa = wc := ⟨_, rfl⟩
  subst hwa
  clear C1 C2 C2' PX SG
  go_wp2_with (fail)
  refine (SN.out _).mono ?_
  rintro e w6 ⟨rfl, hb6⟩
  have HB6 := hide (below_on HB5.out (below_on hb6 (below_new w6 (.cells #[.int .i64 p2, .int .i64 b] 34))))
  have HG6 := hide (blk_keep (blk_below HG5.out hb6) (.cells #[.int .i64 p2, .int .i64 b] 34))
  have HN6 := hide (blk_new w6 (.cells #[.int .i64 p2, .int .i64 b] 34))
  have hr6 := seal_cells (blk_below HG5.out hb6)
  have hlt := blk_lt (blk_below HG5.out hb6)
  clear hb6 HB5 HG5 r0 r1
  obtain ⟨r0, r1⟩ := hr6
  rcases NN.out with ⟨hn, rfl, rfl, ht⟩ | rfl
  · rw [errV_zero]
    have HN := hide hn
    have HT := hide ht
    clear hn ht
    by_cases hab : a = b
    · go_wp2
      go_ret
      exact ⟨rfl, HB6.out⟩
    · go_wp2_with (fail)
      refine (R1.out _).mono ?_
      rintro e w7 ⟨rfl, hb7⟩
      have HB7 := hide (below_on HB6.out hb7)
      have HG7 := hide (blk_below HG6.out hb7)
      have HN7 := hide (blk_below HN6.out hb7)
      clear hb7 HB6 HG6 HN6 r0 r1
      obtain ⟨r0, r1⟩ := seal_cells HG7.out
      obtain ⟨t0, t1⟩ := seal_cells HN7.out
      go_wp2_with (fail)
      refine (R2.out _ HN.out).mono ?_
      rintro e w8 ⟨rfl, hb8⟩
      have HB8 := hide (below_on HB7.out hb8)
      have HG8 := hide (blk_below HG7.out hb8)
      have HN8 := hide (blk_below HN7.out hb8)
      clear hb8 HB7 HG7 HN7 r0 r1 t0 t1
      obtain ⟨r0, r1⟩ := seal_cells HG8.out
      obtain ⟨t0, t1⟩ := seal_cells HN8.out
      go_wp2
      go_ret
      refine ⟨?_, HB8.out⟩
      exact ret_true (by rw [HT.out]; rfl)
  · rw [errV_one]
    go_wp2
    go_ret
    exact ⟨rfl, HB6.out⟩

theorem walk (x k m other n : Int) (w : World) :
    Calls Try.prog 4 #[.int .i64 x, .int .i64 k, .int .i64 m, .int .i64 other, .int .i64 n] w fun e w' => e = .returned (.bool true) ∧ Below w.heap.size w w' := by
  by_cases h : sigC x k m = 0
  · exact walk_ok x k m other n w h
  · exact walk_no x k m other n w h
end Go.Proofs.Ytlmalnbfmokpoab.KeySeals
