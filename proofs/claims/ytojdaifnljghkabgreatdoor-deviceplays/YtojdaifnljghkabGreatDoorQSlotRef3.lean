/-
  Contracts of what package stairref2 says on slots (Good, Start): what each returns, what becomes of the object, and that all else stays as it was.
-/
import Derived.Test.YtojdaifnljghkabGreatDoorQSlotRef2
import Derived.Test.YtojdaifnljghkabGreatDoorPack1
namespace Go.Proofs.YtojdaifnljghkabGreatDoor.SlotRef
open Go.ChangeShapes Go.WideShapes Go.ChangeAt Go.RowKit
open Go.Proofs.YtojdaifnljghkabGreatDoor.M
set_option linter.unusedVariables false
set_option linter.unusedSimpArgs false

set_option maxHeartbeats 2000000 in
theorem good_lo (g : Nat) (tx ty : Sl) (w : World) (B : Nat) (h : SIs w B g ⟨tx, ty, false⟩) (hg : tx.good = false) :
    Calls Tryz.prog 22 #[.pointer (some ⟨g, 0, none⟩)] w fun e w' => e = .returned (.int .i64 0) ∧ SIs w' B g ⟨⟨tx.s, tx.full, 0, true⟩, noSl, false⟩ ∧ Only (fun k => k = g) w w' := by
  have HG := hide h
  clear h
  obtain ⟨⟨x0, x1, x2, x3, x4, x5, x6, x7⟩, ⟨y0, y1, y2, y3, y4, y5, y6, y7⟩, z⟩ := cells8 HG.out.1
  obtain ⟨⟨f0, f1, f2, f3, f4, f5, f6, f7⟩, ⟨k0, k1, k2, k3, k4, k5, k6, k7⟩, f16⟩ := frees HG.out.1
  simp only [idx] at z
  rw [hg] at x7
  have HQ := hide (show ∀ n, SIs (w.drewN n) B g ⟨tx, ty, false⟩ ∧ Only (fun k => k = g) w (w.drewN n) from fun n => ⟨HG.out.below (quiet_below w n), Only.of_below (quiet_below w n)⟩)
  go_enter Tryz.func22, Tryz.ntmps22
  go_wp2_with (fail)
  go_quiet (fail)
  have HG1 := hide (HQ.out nq).1
  have HO1 := hide (HQ.out nq).2
  clear x0 x1 x2 x3 x4 x5 x6 x7 y0 y1 y2 y3 y4 y5 y6 y7 z f0 f1 f2 f3 f4 f5 f6 f7 k0 k1 k2 k3 k4 k5 k6 k7 f16
  clear HG HQ
  generalize w.drewN nq = w1 at *
  go_upto_region 3 with (fail)
  obtain ⟨⟨x0, x1, x2, x3, x4, x5, x6, x7⟩, ⟨y0, y1, y2, y3, y4, y5, y6, y7⟩, z⟩ := cells8 HG1.out.1
  obtain ⟨⟨f0, f1, f2, f3, f4, f5, f6, f7⟩, ⟨k0, k1, k2, k3, k4, k5, k6, k7⟩, f16⟩ := frees HG1.out.1
  simp only [idx] at z
  go_cut [] (fun w' => Hid (SIs w' B g ⟨⟨tx.s, tx.full, tx.tries, true⟩, ty, false⟩ ∧ Only (fun k => k = g) w w'))
  case first =>
    go_region_with (fail)
    all_goals
      go_wp2
      go_meet
      refine ⟨⟨?_, HG1.out.2⟩, ?_⟩
      · simp only [drew_heap]
        exact hs7 HG1.out.1
      · simp only [drew_only]
        exact HO1.out.setCell (p := ⟨g, 7, none⟩) rfl _
  case rest =>
  obtain ⟨hG2, hO2⟩ := Hid.out hcut
  have HG2 := hide hG2
  have HO2 := hide hO2
  clear x0 x1 x2 x3 x4 x5 x6 x7 y0 y1 y2 y3 y4 y5 y6 y7 z f0 f1 f2 f3 f4 f5 f6 f7 k0 k1 k2 k3 k4 k5 k6 k7 f16
  clear hcut HG1 HO1 hG2 hO2
  go_upto_region 4 with (fail)
  obtain ⟨⟨x0, x1, x2, x3, x4, x5, x6, x7⟩, ⟨y0, y1, y2, y3, y4, y5, y6, y7⟩, z⟩ := cells8 HG2.out.1
  obtain ⟨⟨f0, f1, f2, f3, f4, f5, f6, f7⟩, ⟨k0, k1, k2, k3, k4, k5, k6, k7⟩, f16⟩ := frees HG2.out.1
  simp only [idx] at z
  go_cut [] (fun w' => Hid (SIs w' B g ⟨⟨tx.s, tx.full, 0, true⟩, ty, false⟩ ∧ Only (fun k => k = g) w w'))
  case first =>
    go_region_with (fail)
    all_goals
      go_wp2
      go_meet
      refine ⟨⟨?_, HG2.out.2⟩, ?_⟩
      · simp only [drew_heap]
        exact hs6 HG2.out.1
      · simp only [drew_only]
        exact HO2.out.setCell (p := ⟨g, 6, none⟩) rfl _
  case rest =>
  obtain ⟨hG3, hO3⟩ := Hid.out hcut
  have HG3 := hide hG3
  have HO3 := hide hO3
  clear x0 x1 x2 x3 x4 x5 x6 x7 y0 y1 y2 y3 y4 y5 y6 y7 z f0 f1 f2 f3 f4 f5 f6 f7 k0 k1 k2 k3 k4 k5 k6 k7 f16
  clear hcut HG2 HO2 hG3 hO3
  go_upto_region 5 with (fail)
  obtain ⟨⟨x0, x1, x2, x3, x4, x5, x6, x7⟩, ⟨y0, y1, y2, y3, y4, y5, y6, y7⟩, z⟩ := cells8 HG3.out.1
  obtain ⟨⟨f0, f1, f2, f3, f4, f5, f6, f7⟩, ⟨k0, k1, k2, k3, k4, k5, k6, k7⟩, f16⟩ := frees HG3.out.1
  simp only [idx] at z
  go_region_with (fail)
  all_goals
    go_wp2
    go_ret
    refine ⟨rfl, ⟨?_, HG3.out.2⟩, ?_⟩
    · simp only [drew_heap]
      exact hs15 (hs14 (hs13 (hs12 (hs11 (hs10 (hs9 (hs8 HG3.out.1)))))))
    · simp only [drew_only]
      exact only8 rfl HO3.out

set_option maxHeartbeats 2000000 in
theorem good_hi (g : Nat) (tx ty : Sl) (w : World) (B : Nat) (h : SIs w B g ⟨tx, ty, true⟩) (hg : ty.good = false) :
    Calls Tryz.prog 22 #[.pointer (some ⟨g, 0, none⟩)] w fun e w' => e = .returned (.int .i64 0) ∧ SIs w' B g ⟨noSl, ⟨ty.s, ty.full, 0, true⟩, true⟩ ∧ Only (fun k => k = g) w w' := by
  have HG := hide h
  clear h
  obtain ⟨⟨x0, x1, x2, x3, x4, x5, x6, x7⟩, ⟨y0, y1, y2, y3, y4, y5, y6, y7⟩, z⟩ := cells8 HG.out.1
  obtain ⟨⟨f0, f1, f2, f3, f4, f5, f6, f7⟩, ⟨k0, k1, k2, k3, k4, k5, k6, k7⟩, f16⟩ := frees HG.out.1
  simp only [idx] at z
  rw [hg] at y7
  have HQ := hide (show ∀ n, SIs (w.drewN n) B g ⟨tx, ty, true⟩ ∧ Only (fun k => k = g) w (w.drewN n) from fun n => ⟨HG.out.below (quiet_below w n), Only.of_below (quiet_below w n)⟩)
  go_enter Tryz.func22, Tryz.ntmps22
  go_wp2_with (fail)
  go_quiet (fail)
  have HG1 := hide (HQ.out nq).1
  have HO1 := hide (HQ.out nq).2
  clear x0 x1 x2 x3 x4 x5 x6 x7 y0 y1 y2 y3 y4 y5 y6 y7 z f0 f1 f2 f3 f4 f5 f6 f7 k0 k1 k2 k3 k4 k5 k6 k7 f16
  clear HG HQ
  generalize w.drewN nq = w1 at *
  go_upto_region 3 with (fail)
  obtain ⟨⟨x0, x1, x2, x3, x4, x5, x6, x7⟩, ⟨y0, y1, y2, y3, y4, y5, y6, y7⟩, z⟩ := cells8 HG1.out.1
  obtain ⟨⟨f0, f1, f2, f3, f4, f5, f6, f7⟩, ⟨k0, k1, k2, k3, k4, k5, k6, k7⟩, f16⟩ := frees HG1.out.1
  simp only [idx] at z
  go_cut [] (fun w' => Hid (SIs w' B g ⟨tx, ⟨ty.s, ty.full, ty.tries, true⟩, true⟩ ∧ Only (fun k => k = g) w w'))
  case first =>
    go_region_with (fail)
    all_goals
      go_wp2
      go_meet
      refine ⟨⟨?_, HG1.out.2⟩, ?_⟩
      · simp only [drew_heap]
        exact hs15 HG1.out.1
      · simp only [drew_only]
        exact HO1.out.setCell (p := ⟨g, 15, none⟩) rfl _
  case rest =>
  obtain ⟨hG2, hO2⟩ := Hid.out hcut
  have HG2 := hide hG2
  have HO2 := hide hO2
  clear x0 x1 x2 x3 x4 x5 x6 x7 y0 y1 y2 y3 y4 y5 y6 y7 z f0 f1 f2 f3 f4 f5 f6 f7 k0 k1 k2 k3 k4 k5 k6 k7 f16
  clear hcut HG1 HO1 hG2 hO2
  go_upto_region 4 with (fail)
  obtain ⟨⟨x0, x1, x2, x3, x4, x5, x6, x7⟩, ⟨y0, y1, y2, y3, y4, y5, y6, y7⟩, z⟩ := cells8 HG2.out.1
  obtain ⟨⟨f0, f1, f2, f3, f4, f5, f6, f7⟩, ⟨k0, k1, k2, k3, k4, k5, k6, k7⟩, f16⟩ := frees HG2.out.1
  simp only [idx] at z
  go_cut [] (fun w' => Hid (SIs w' B g ⟨tx, ⟨ty.s, ty.full, 0, true⟩, true⟩ ∧ Only (fun k => k = g) w w'))
  case first =>
    go_region_with (fail)
    all_goals
      go_wp2
      go_meet
      refine ⟨⟨?_, HG2.out.2⟩, ?_⟩
      · simp only [drew_heap]
        exact hs14 HG2.out.1
      · simp only [drew_only]
        exact HO2.out.setCell (p := ⟨g, 14, none⟩) rfl _
  case rest =>
  obtain ⟨hG3, hO3⟩ := Hid.out hcut
  have HG3 := hide hG3
  have HO3 := hide hO3
  clear x0 x1 x2 x3 x4 x5 x6 x7 y0 y1 y2 y3 y4 y5 y6 y7 z f0 f1 f2 f3 f4 f5 f6 f7 k0 k1 k2 k3 k4 k5 k6 k7 f16
  clear hcut HG2 HO2 hG3 hO3
  go_upto_region 5 with (fail)
  obtain ⟨⟨x0, x1, x2, x3, x4, x5, x6, x7⟩, ⟨y0, y1, y2, y3, y4, y5, y6, y7⟩, z⟩ := cells8 HG3.out.1
  obtain ⟨⟨f0, f1, f2, f3, f4, f5, f6, f7⟩, ⟨k0, k1, k2, k3, k4, k5, k6, k7⟩, f16⟩ := frees HG3.out.1
  simp only [idx] at z
  go_region_with (fail)
  all_goals
    go_wp2
    go_ret
    refine ⟨rfl, ⟨?_, HG3.out.2⟩, ?_⟩
    · simp only [drew_heap]
      exact hs7 (hs6 (hs5 (hs4 (hs3 (hs2 (hs1 (hs0 HG3.out.1)))))))
    · simp only [drew_only]
      exact only8 rfl HO3.out

set_option maxHeartbeats 2000000 in
theorem good_is (g : Nat) (t : St) (w : World) (B : Nat) (h : SIs w B g t) (hg : (t.at t.r).good = true) :
    Calls Tryz.prog 22 #[.pointer (some ⟨g, 0, none⟩)] w fun e w' => e = .returned (.int .i64 7) ∧ Below w.heap.size w w' := by
  obtain ⟨⟨x0, x1, x2, x3, x4, x5, x6, x7⟩, ⟨y0, y1, y2, y3, y4, y5, y6, y7⟩, z⟩ := cells8 h.1
  clear h
  obtain ⟨tx, ty, r⟩ := t
  cases r
  · simp only [St.at, idx] at *
    rw [hg] at x7
    go_enter Tryz.func22, Tryz.ntmps22
    go_wp2_with (fail)
    go_quiet (fail)
    go_wp2
    go_ret
    exact ⟨rfl, quiet_below _ _⟩
  · simp only [St.at, idx] at *
    rw [hg] at y7
    go_enter Tryz.func22, Tryz.ntmps22
    go_wp2_with (fail)
    go_quiet (fail)
    go_wp2
    go_ret
    exact ⟨rfl, quiet_below _ _⟩
theorem good_any (g : Nat) (t : St) (w : World) (B : Nat) (h : SIs w B g t) :
    Calls Tryz.prog 22 #[.pointer (some ⟨g, 0, none⟩)] w fun e w' => e = .returned (.int .i64 (goodE t)) ∧ SIs w' B g (goodT t) ∧ Only (fun k => k = g) w w' := by
  cases hg : (t.at t.r).good with
  | true =>
    refine (good_is g t w B h hg).mono ?_
    rintro e w' ⟨rfl, hb⟩
    exact ⟨by unfold goodE; rw [if_pos hg], by unfold goodT; rw [if_pos hg]; exact h.below hb, Only.of_below hb⟩
  | false =>
    have hn : ¬ (t.at t.r).good = true := by rw [hg]; decide
    unfold goodE goodT
    rw [if_neg hn, if_neg hn]
    obtain ⟨tx, ty, r⟩ := t
    cases r
    · exact good_lo g tx ty w B h hg
    · exact good_hi g tx ty w B h hg
end Go.Proofs.YtojdaifnljghkabGreatDoor.SlotRef
