/-
  Contract of what package stairref2 says on slots (Start): what it returns, what becomes of the object, and that all else stays as it was.
-/
import Derived.Test.YtojdaifnljghkabGreatDoorQSlotRef3
namespace Go.Proofs.YtojdaifnljghkabGreatDoor.SlotRef
open Go.ChangeShapes Go.WideShapes Go.ChangeAt Go.RowKit
open Go.Proofs.YtojdaifnljghkabGreatDoor.M
set_option linter.unusedVariables false
set_option linter.unusedSimpArgs false


set_option maxHeartbeats 2000000 in
theorem start_lo (g : Nat) (tx ty : Sl) (r : Bool) (w : World) (B : Nat) (h : SIs w B g ⟨tx, ty, r⟩) (hq : pickT ⟨tx, ty, r⟩ = false) (b0 : 0 ≤ tx.tries) (b1 : tx.tries ≤ 3) :
    Calls Tryz.prog 35 #[.pointer (some ⟨g, 0, none⟩)] w fun e w' => e = .returned (sgA tx.s) ∧ SIs w' B g ⟨lessL tx, ty, false⟩ ∧ Only (fun k => k = g) w w' := by
  have hbA := below_new w (.cells #[.string { data := #[] }, .int .i64 0, .string { data := #[] }, .int .i64 0, .int .i64 0] 27)
  have PK := hide (pick_any g ⟨tx, ty, r⟩ _ B (h.below hbA))
  have HR := hide (blk_new w (.cells #[.string { data := #[] }, .int .i64 0, .string { data := #[] }, .int .i64 0, .int .i64 0] 27))
  have HB := hide hbA
  have HG := hide (h.below hbA)
  have hgl := blk_lt h.1
  have hgR : g ≠ w.heap.size := by omega
  rw [hq] at PK
  simp only [idx] at PK
  clear h hbA hq
  go_enter Tryz.func35, Tryz.ntmps35
  go_wp2_with (fail)
  refine PK.out.mono ?_
  rintro e w1 ⟨rfl, hb1⟩
  have HG1 := hide (HG.out.below hb1)
  have HR1 := hide (blk_below HR.out hb1)
  have HO1 := hide (Only.of_below (S := fun k => k = g) (below_on HB.out hb1))
  clear hb1 HG HR HB PK
  obtain ⟨_, _, z⟩ := cells8 HG1.out.1
  have f16 := at_free HG1.out.1 16
  go_upto_region 2 with (fail)
  have HG2 : Hid (SIs (w1.setCell ⟨g, 16, none⟩ (.int .i64 0)) B g ⟨tx, ty, false⟩) := ⟨hs16 HG1.out.1, HG1.out.2⟩
  have HR2 := hide ((Below.heap_setCell w1 ⟨g, 16, none⟩ (.int .i64 0) w.heap.size (fun e => hgR e.symm)).trans HR1.out)
  have HO2 := hide (HO1.out.setCell (p := ⟨g, 16, none⟩) rfl (.int .i64 0))
  clear z f16 HG1 HR1 HO1
  generalize w1.setCell ⟨g, 16, none⟩ (.int .i64 0) = w2 at *
  obtain ⟨⟨x0, x1, x2, x3, x4, x5, x6, x7⟩, ⟨y0, y1, y2, y3, y4, y5, y6, y7⟩, z⟩ := cells8 HG2.out.1
  obtain ⟨⟨f0, f1, f2, f3, f4, f5, f6, f7⟩, ⟨k0, k1, k2, k3, k4, k5, k6, k7⟩, f16⟩ := frees HG2.out.1
  simp only [idx] at z
  go_cut [18] (fun s18 w' => s18 = .bool (!tx.good) ∧ Hid (SIs w' B g ⟨tx, ty, false⟩ ∧ Only (fun k => k = g) w w' ∧ w'.heap[w.heap.size]? = some (.cells #[.string { data := #[] }, .int .i64 0, .string { data := #[] }, .int .i64 0, .int .i64 0] 27)))
  case first =>
    go_quiet (fail)
    go_wp2
    go_meet
    exact ⟨rfl, HG2.out.below (quiet_below w2 nq), HO2.out.after (quiet_below w2 nq), blk_below HR2.out (quiet_below w2 nq)⟩
  case rest =>
  obtain ⟨rfl, HC⟩ := hcut
  obtain ⟨hG3, hO3, hR3⟩ := Hid.out HC
  have HG3 := hide hG3
  have HO3 := hide hO3
  have HR3 := hide hR3
  clear x0 x1 x2 x3 x4 x5 x6 x7 y0 y1 y2 y3 y4 y5 y6 y7 z f0 f1 f2 f3 f4 f5 f6 f7 k0 k1 k2 k3 k4 k5 k6 k7 f16
  clear HC HG2 HO2 HR2 hG3 hO3 hR3
  go_upto_if 18 with (fail)
  go_cut [18] (fun _ w' => Hid (SIs w' B g ⟨lessL tx, ty, false⟩ ∧ Only (fun k => k = g) w w' ∧ w'.heap[w.heap.size]? = some (.cells #[.string { data := #[] }, .int .i64 0, .string { data := #[] }, .int .i64 0, .int .i64 0] 27)))
  case first =>
    obtain ⟨⟨x0, x1, x2, x3, x4, x5, x6, x7⟩, ⟨y0, y1, y2, y3, y4, y5, y6, y7⟩, z⟩ := cells8 HG3.out.1
    obtain ⟨⟨f0, f1, f2, f3, f4, f5, f6, f7⟩, ⟨k0, k1, k2, k3, k4, k5, k6, k7⟩, f16⟩ := frees HG3.out.1
    simp only [idx] at z
    cases hg : tx.good with
    | true =>
      have HL := hide (show lessL tx = tx by unfold lessL; rw [if_pos hg])
      go_wp2
      go_meet
      exact ⟨by rw [HL.out]; exact HG3.out, HO3.out, HR3.out⟩
    | false =>
      have HL := hide (show lessL tx = { tx with tries := tx.tries - 1 } by unfold lessL; rw [if_neg (by rw [hg]; decide)])
      go_wp2_with (fail)
      go_region_with (fail)
      all_goals
        go_wp2
        go_meet
        refine ⟨⟨?_, HG3.out.2⟩, ?_, ?_⟩
        · rw [HL.out]
          simp only [drew_heap]
          rw [IntWalk.i64_in _ ⟨by omega, by omega⟩]
          exact hs6 HG3.out.1
        · simp only [drew_only]
          exact HO3.out.setCell (p := ⟨g, 6, none⟩) rfl _
        · simp only [drew_heap]
          exact (Below.heap_setCell _ ⟨g, 6, none⟩ _ w.heap.size (fun e => hgR e.symm)).trans HR3.out
  case rest =>
  obtain ⟨hG4, hO4, hR4⟩ := Hid.out hcut
  have HS := hide (show (lessL tx).s = tx.s by unfold lessL; split <;> rfl)
  have HG4 := hide hG4
  have HO4 := hide hO4
  have HR4 := hide hR4
  clear hcut HG3 HO3 HR3 hG4 hO4 hR4
  obtain ⟨⟨x0, x1, x2, x3, x4, x5, x6, x7⟩, ⟨y0, y1, y2, y3, y4, y5, y6, y7⟩, z⟩ := cells8 HG4.out.1
  obtain ⟨⟨f0, f1, f2, f3, f4, f5, f6, f7⟩, ⟨k0, k1, k2, k3, k4, k5, k6, k7⟩, f16⟩ := frees HG4.out.1
  simp only [idx] at z
  simp only [HS.out] at x0 x1 x2 x3 x4 y0 y1 y2 y3 y4
  obtain ⟨p0, p1, p2, p3, p4⟩ := cellsS HR4.out
  have q0 := at_free HR4.out 0
  have q1 := at_free HR4.out 1
  have q2 := at_free HR4.out 2
  have q3 := at_free HR4.out 3
  have q4 := at_free HR4.out 4
  go_wp2_with (fail)
  go_region_with (fail)
  all_goals
    go_wp2
    refine bodyPost_ret (v := sgA tx.s) ?_ rfl ⟨rfl, ⟨?_, HG4.out.2⟩, ?_⟩
    · exact results_sg (p := 2) rfl _ _ w.heap.size _ rfl (by simp only [drew_heap]; exact r5 HR4.out) rfl
    · simp only [drew_heap]
      exact other5 hgR HG4.out.1
    · simp only [drew_only]
      exact new5 (Nat.le_refl _) HO4.out

set_option maxHeartbeats 2000000 in
theorem start_hi (g : Nat) (tx ty : Sl) (r : Bool) (w : World) (B : Nat) (h : SIs w B g ⟨tx, ty, r⟩) (hq : pickT ⟨tx, ty, r⟩ = true) (b0 : 0 ≤ ty.tries) (b1 : ty.tries ≤ 3) :
    Calls Tryz.prog 35 #[.pointer (some ⟨g, 0, none⟩)] w fun e w' => e = .returned (sgA ty.s) ∧ SIs w' B g ⟨tx, lessL ty, true⟩ ∧ Only (fun k => k = g) w w' := by
  have hbA := below_new w (.cells #[.string { data := #[] }, .int .i64 0, .string { data := #[] }, .int .i64 0, .int .i64 0] 27)
  have PK := hide (pick_any g ⟨tx, ty, r⟩ _ B (h.below hbA))
  have HR := hide (blk_new w (.cells #[.string { data := #[] }, .int .i64 0, .string { data := #[] }, .int .i64 0, .int .i64 0] 27))
  have HB := hide hbA
  have HG := hide (h.below hbA)
  have hgl := blk_lt h.1
  have hgR : g ≠ w.heap.size := by omega
  rw [hq] at PK
  simp only [idx] at PK
  clear h hbA hq
  go_enter Tryz.func35, Tryz.ntmps35
  go_wp2_with (fail)
  refine PK.out.mono ?_
  rintro e w1 ⟨rfl, hb1⟩
  have HG1 := hide (HG.out.below hb1)
  have HR1 := hide (blk_below HR.out hb1)
  have HO1 := hide (Only.of_below (S := fun k => k = g) (below_on HB.out hb1))
  clear hb1 HG HR HB PK
  obtain ⟨_, _, z⟩ := cells8 HG1.out.1
  have f16 := at_free HG1.out.1 16
  go_upto_region 2 with (fail)
  have HG2 : Hid (SIs (w1.setCell ⟨g, 16, none⟩ (.int .i64 1)) B g ⟨tx, ty, true⟩) := ⟨hs16 HG1.out.1, HG1.out.2⟩
  have HR2 := hide ((Below.heap_setCell w1 ⟨g, 16, none⟩ (.int .i64 1) w.heap.size (fun e => hgR e.symm)).trans HR1.out)
  have HO2 := hide (HO1.out.setCell (p := ⟨g, 16, none⟩) rfl (.int .i64 1))
  clear z f16 HG1 HR1 HO1
  generalize w1.setCell ⟨g, 16, none⟩ (.int .i64 1) = w2 at *
  obtain ⟨⟨x0, x1, x2, x3, x4, x5, x6, x7⟩, ⟨y0, y1, y2, y3, y4, y5, y6, y7⟩, z⟩ := cells8 HG2.out.1
  obtain ⟨⟨f0, f1, f2, f3, f4, f5, f6, f7⟩, ⟨k0, k1, k2, k3, k4, k5, k6, k7⟩, f16⟩ := frees HG2.out.1
  simp only [idx] at z
  go_cut [18] (fun s18 w' => s18 = .bool (!ty.good) ∧ Hid (SIs w' B g ⟨tx, ty, true⟩ ∧ Only (fun k => k = g) w w' ∧ w'.heap[w.heap.size]? = some (.cells #[.string { data := #[] }, .int .i64 0, .string { data := #[] }, .int .i64 0, .int .i64 0] 27)))
  case first =>
    go_quiet (fail)
    go_wp2
    go_meet
    exact ⟨rfl, HG2.out.below (quiet_below w2 nq), HO2.out.after (quiet_below w2 nq), blk_below HR2.out (quiet_below w2 nq)⟩
  case rest =>
  obtain ⟨rfl, HC⟩ := hcut
  obtain ⟨hG3, hO3, hR3⟩ := Hid.out HC
  have HG3 := hide hG3
  have HO3 := hide hO3
  have HR3 := hide hR3
  clear x0 x1 x2 x3 x4 x5 x6 x7 y0 y1 y2 y3 y4 y5 y6 y7 z f0 f1 f2 f3 f4 f5 f6 f7 k0 k1 k2 k3 k4 k5 k6 k7 f16
  clear HC HG2 HO2 HR2 hG3 hO3 hR3
  go_upto_if 18 with (fail)
  go_cut [18] (fun _ w' => Hid (SIs w' B g ⟨tx, lessL ty, true⟩ ∧ Only (fun k => k = g) w w' ∧ w'.heap[w.heap.size]? = some (.cells #[.string { data := #[] }, .int .i64 0, .string { data := #[] }, .int .i64 0, .int .i64 0] 27)))
  case first =>
    obtain ⟨⟨x0, x1, x2, x3, x4, x5, x6, x7⟩, ⟨y0, y1, y2, y3, y4, y5, y6, y7⟩, z⟩ := cells8 HG3.out.1
    obtain ⟨⟨f0, f1, f2, f3, f4, f5, f6, f7⟩, ⟨k0, k1, k2, k3, k4, k5, k6, k7⟩, f16⟩ := frees HG3.out.1
    simp only [idx] at z
    cases hg : ty.good with
    | true =>
      have HL := hide (show lessL ty = ty by unfold lessL; rw [if_pos hg])
      go_wp2
      go_meet
      exact ⟨by rw [HL.out]; exact HG3.out, HO3.out, HR3.out⟩
    | false =>
      have HL := hide (show lessL ty = { ty with tries := ty.tries - 1 } by unfold lessL; rw [if_neg (by rw [hg]; decide)])
      go_wp2_with (fail)
      go_region_with (fail)
      all_goals
        go_wp2
        go_meet
        refine ⟨⟨?_, HG3.out.2⟩, ?_, ?_⟩
        · rw [HL.out]
          simp only [drew_heap]
          rw [IntWalk.i64_in _ ⟨by omega, by omega⟩]
          exact hs14 HG3.out.1
        · simp only [drew_only]
          exact HO3.out.setCell (p := ⟨g, 14, none⟩) rfl _
        · simp only [drew_heap]
          exact (Below.heap_setCell _ ⟨g, 14, none⟩ _ w.heap.size (fun e => hgR e.symm)).trans HR3.out
  case rest =>
  obtain ⟨hG4, hO4, hR4⟩ := Hid.out hcut
  have HS := hide (show (lessL ty).s = ty.s by unfold lessL; split <;> rfl)
  have HG4 := hide hG4
  have HO4 := hide hO4
  have HR4 := hide hR4
  clear hcut HG3 HO3 HR3 hG4 hO4 hR4
  obtain ⟨⟨x0, x1, x2, x3, x4, x5, x6, x7⟩, ⟨y0, y1, y2, y3, y4, y5, y6, y7⟩, z⟩ := cells8 HG4.out.1
  obtain ⟨⟨f0, f1, f2, f3, f4, f5, f6, f7⟩, ⟨k0, k1, k2, k3, k4, k5, k6, k7⟩, f16⟩ := frees HG4.out.1
  simp only [idx] at z
  simp only [HS.out] at x0 x1 x2 x3 x4 y0 y1 y2 y3 y4
  obtain ⟨p0, p1, p2, p3, p4⟩ := cellsS HR4.out
  have q0 := at_free HR4.out 0
  have q1 := at_free HR4.out 1
  have q2 := at_free HR4.out 2
  have q3 := at_free HR4.out 3
  have q4 := at_free HR4.out 4
  go_wp2_with (fail)
  go_region_with (fail)
  all_goals
    go_wp2
    refine bodyPost_ret (v := sgA ty.s) ?_ rfl ⟨rfl, ⟨?_, HG4.out.2⟩, ?_⟩
    · exact results_sg (p := 2) rfl _ _ w.heap.size _ rfl (by simp only [drew_heap]; exact r5 HR4.out) rfl
    · simp only [drew_heap]
      exact other5 hgR HG4.out.1
    · simp only [drew_only]
      exact new5 (Nat.le_refl _) HO4.out

theorem start_any (g : Nat) (t : St) (w : World) (B : Nat) (h : SIs w B g t) (hx : 0 ≤ t.x.tries ∧ t.x.tries ≤ 3) (hy : 0 ≤ t.y.tries ∧ t.y.tries ≤ 3) :
    Calls Tryz.prog 35 #[.pointer (some ⟨g, 0, none⟩)] w fun e w' => e = .returned (sgA (t.at (pickT t)).s) ∧ SIs w' B g (startT t) ∧ Only (fun k => k = g) w w' := by
  obtain ⟨tx, ty, r⟩ := t
  unfold startT
  cases hq : pickT ⟨tx, ty, r⟩ with
  | false => exact start_lo g tx ty r w B h hq hx.1 hx.2
  | true => exact start_hi g tx ty r w B h hq hy.1 hy.2
end Go.Proofs.YtojdaifnljghkabGreatDoor.SlotRef
