/-
  Contract of package quote's Check over this translation: what it returns, and that memory that was there stays as it was.
-/
import Derived.Test.YtojdaifnljghkabGreatDoorQQuote1
namespace Go.Proofs.YtojdaifnljghkabGreatDoor.Quote
open Go.ChangeShapes Go.WideShapes Go.ChangeAt Go.RowKit
open Go.Proofs.YtojdaifnljghkabGreatDoor.M Go.Proofs.YtojdaifnljghkabGreatDoor.Measure
set_option linter.unusedVariables false

theorem fit_told {q0 q1 q2 q3 q4 nn : Int} (h : isM nn = true) : fitQ (q0, q1, q2, q3, q4) nn = toldB q0 q1 q2 := by
  unfold fitQ toldB
  simp only []
  rw [h]
  cases isM q0 <;> cases isM q2 <;> cases isMask q1 <;> rfl

set_option maxHeartbeats 4000000 in
theorem check_any (pub : Int) (q : Int × Int × Int × Int × Int) (nn : Int) (w : World) :
    Calls Tryz.prog 61 #[.int .i64 pub, .agg (quoC q), .int .i64 nn] w fun e w' => e = .returned (errV 96 (chqE pub q nn)) ∧ Below w.heap.size w w' := by
  obtain ⟨q0, q1, q2, q3, q4⟩ := q
  unfold quoC
  have HB0 := hide (below_new w (.cells #[.int .i64 q0, .int .i64 q1, .int .i64 q2, .int .i64 q3, .int .i64 q4] 45))
  have HG0 := hide (blk_new w (.cells #[.int .i64 q0, .int .i64 q1, .int .i64 q2, .int .i64 q3, .int .i64 q4] 45))
  obtain ⟨r0, r1, r2, r3, r4⟩ := quin_cells HG0.out
  cases f0 : isM nn with
  | false =>
    have E : chqE pub (q0, q1, q2, q3, q4) nn = 1 := chqE_no (by unfold fitQ; rw [f0]; rfl)
    rw [E, errV_one]
    clear E
    go_enter Tryz.func61, Tryz.ntmps61
    go_wp2_with (go_at_call 80; refine (is_any _ _).mono ?_; rintro e w' ⟨rfl, rfl⟩)
    go_ret
    exact ⟨rfl, HB0.out⟩
  | true =>
    cases hT : toldB q0 q1 q2 with
    | false =>
      have E : chqE pub (q0, q1, q2, q3, q4) nn = 1 := chqE_no (by rw [fit_told f0]; exact hT)
      rw [E, errV_one]
      have TD := hide (fun W => told_no q0 q1 q2 q3 q4 W hT)
      clear E hT
      go_enter Tryz.func61, Tryz.ntmps61
      go_wp2_with (go_at_call 80; refine (is_any _ _).mono ?_; rintro e w' ⟨rfl, rfl⟩)
      refine (TD.out _).mono ?_
      rintro e w2 ⟨rfl, hb2⟩
      have HB2 := hide (below_on HB0.out hb2)
      clear hb2 HB0 HG0 r0 r1 r2 r3 r4 TD
      go_wp2
      go_ret
      exact ⟨rfl, HB2.out⟩
    | true =>
      have hf : fitQ (q0, q1, q2, q3, q4) nn = true := (fit_told f0).trans hT
      have TD := hide (fun W => told_ok q0 q1 q2 q3 q4 W hT)
      have CK := hide (fun W => Key.hold_any pub (quoM q0 q1 q2) q3 q4 W)
      unfold sealC at CK
      have RC := hide (rigQ_is pub (q0, q1, q2, q3, q4))
      have R1 := hide (fun h => chqE_rig (pub := pub) hf h)
      have R2 := hide (fun h h2 => chqE_ok (pub := pub) hf h h2)
      have R3 := hide (fun h h2 => chqE_else (pub := pub) hf h h2)
      rw [show rigQ pub (q0, q1, q2, q3, q4) = rigC pub (quoM q0 q1 q2) q3 q4 from rfl] at RC R1 R2 R3
      simp only [] at R2 R3
      clear hf hT
      generalize rigC pub (quoM q0 q1 q2) q3 q4 = rc at *
      generalize quoM q0 q1 q2 = qm at *
      go_enter Tryz.func61, Tryz.ntmps61
      go_wp2_with (go_at_call 80; refine (is_any _ _).mono ?_; rintro e w' ⟨rfl, rfl⟩)
      refine (TD.out _).mono ?_
      rintro e w2 ⟨rfl, hb2⟩
      have HB2 := hide (below_on HB0.out hb2)
      have HG2 := hide (blk_below HG0.out hb2)
      clear hb2 HB0 HG0 r0 r1 r2 r3 r4 TD
      obtain ⟨r0, r1, r2, r3, r4⟩ := quin_cells HG2.out
      go_wp2_with (fail)
      refine (CK.out _).mono ?_
      rintro e w3 ⟨rfl, hb3⟩
      have HB3 := hide (below_on HB2.out hb3)
      obtain ⟨g0, g1, g2, g3, g4⟩ := quin_cells (blk_below HG2.out hb3)
      clear hb3 HB2 HG2 CK r0 r1 r2 r3 r4
      rcases RC.out with rfl | rfl | rfl
      · rw [errV_zero]
        by_cases hn : q0 = nn
        · have E := hide (R2.out rfl hn)
          subst hn
          go_wp2
          go_ret
          exact ⟨by rw [E.out]; rfl, HB3.out⟩
        · have E := hide (R3.out rfl hn)
          go_wp2
          go_ret
          exact ⟨by rw [E.out]; rfl, HB3.out⟩
      · rw [show errV 96 8 = .iface 96 (.int .i64 8) from rfl]
        have E := hide (R1.out (by decide))
        go_wp2
        go_ret
        exact ⟨by rw [E.out]; rfl, HB3.out⟩
      · rw [errV_one]
        have E := hide (R1.out (by decide))
        go_wp2
        go_ret
        exact ⟨by rw [E.out]; rfl, HB3.out⟩
end Go.Proofs.YtojdaifnljghkabGreatDoor.Quote
