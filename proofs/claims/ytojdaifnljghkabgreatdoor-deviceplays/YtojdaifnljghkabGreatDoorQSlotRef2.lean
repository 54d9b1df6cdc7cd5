/-
  Contracts of what package stairref2 says on slots (NewSlots, Put, Start, Good): what each returns, what becomes of the object, and that all else stays as it was.
-/
import Derived.Test.YtojdaifnljghkabGreatDoorQSlotRef
import Derived.Test.YtojdaifnljghkabGreatDoorQRef3
import Derived.Deep.RegionWith
namespace Go.Proofs.YtojdaifnljghkabGreatDoor.SlotRef
open Go.ChangeShapes Go.WideShapes Go.ChangeAt Go.RowKit
open Go.Proofs.YtojdaifnljghkabGreatDoor.M
set_option linter.unusedVariables false
set_option linter.unusedSimpArgs false


set_option maxHeartbeats 400000 in
theorem new_any (s : Sg) (w : World) :
    Calls Tryz.prog 20 #[sgA s] w fun e w' => ∃ g, e = .returned (.pointer (some ⟨g, 0, none⟩)) ∧ SIs w' w.heap.size g (newT s) ∧ w.heap.size ≤ g ∧ Below w.heap.size w w' := by
  obtain ⟨nm, v, cd, p, a⟩ := s
  have HG := hide (blk2 w (.cells #[.string nm, .int .i64 v, .string cd, .int .i64 p, .int .i64 a] 27) (.cells (stC ⟨noSl, noSl, false⟩) 129))
  have HP := hide (blk_keep (blk_new w (.cells #[.string nm, .int .i64 v, .string cd, .int .i64 p, .int .i64 a] 27)) (.cells (stC ⟨noSl, noSl, false⟩) 129))
  have HB := hide (below_on (below_new w (.cells #[.string nm, .int .i64 v, .string cd, .int .i64 p, .int .i64 a] 27)) (below_new _ (.cells (stC ⟨noSl, noSl, false⟩) 129)))
  obtain ⟨⟨x0, x1, x2, x3, x4, x5, x6, x7⟩, ⟨y0, y1, y2, y3, y4, y5, y6, y7⟩, z⟩ := cells8 HG.out
  obtain ⟨p0, p1, p2, p3, p4⟩ := cellsS HP.out
  obtain ⟨⟨f0, f1, f2, f3, f4, f5, f6, f7⟩, _, _⟩ := frees HG.out
  unfold sgA
  simp only [stC, noSl, noSg, idx] at *
  go_enter Tryz.func20, Tryz.ntmps20
  go_wp2_with (fail)
  go_region_with (fail)
  all_goals
    go_wp2
    go_ret
    refine ⟨w.heap.size + 1, rfl, ⟨?_, by omega⟩, by omega, ?_⟩
    · exact blk2 _ _ _
    · repeat (first | apply Below.drew | exact below_on (below_new _ _) (below_new _ _))

set_option maxHeartbeats 800000 in
theorem put_any (g : Nat) (t : St) (s : Sg) (w : World) (B : Nat) (h : SIs w B g t) (hs : szS s) :
    Calls Tryz.prog 67 #[.pointer (some ⟨g, 0, none⟩), sgA s] w fun e w' => e = .returned (.int .i64 (putE t s)) ∧ SIs w' B g (putT t s) ∧ Only (fun k => k = g) w w' := by
  have hE : putE t s = if sgE s = 0 then (if (t.at t.r).good = true then 0 else 6) else sgE s := rfl
  have HT := hide (show putT t s = if putE t s = 0 then t.put (!t.r) ⟨s, true, 3, false⟩ else t from rfl)
  have HE := hide hE
  clear hE
  have hgl := blk_lt h.1
  obtain ⟨nm, v, cd, p, a⟩ := s
  have IM := hide (fun W => Ref.image_any nm cd v W hs.1 hs.2)
  have hbA := below_new w (.cells #[.string nm, .int .i64 v, .string cd, .int .i64 p, .int .i64 a] 27)
  have HB := hide hbA
  have HP := hide (blk_new w (.cells #[.string nm, .int .i64 v, .string cd, .int .i64 p, .int .i64 a] 27))
  have HG := hide (h.below hbA)
  have HG0 := hide h
  clear h hs hbA
  unfold imgC at IM
  unfold sgA
  unfold sgE at HE
  simp only [] at HE
  obtain ⟨p0, p1, p2, p3, p4⟩ := cellsS HP.out
  go_enter Tryz.func67, Tryz.ntmps67
  go_wp2_with (fail)
  refine (IM.out _).mono ?_
  rintro e w1 ⟨rfl, hb1⟩
  have HB1 := hide (below_on HB.out hb1)
  have HP1 := hide (blk_below HP.out hb1)
  have HG1 := hide (HG.out.below hb1)
  clear hb1 HB HP HG IM p0 p1 p2 p3 p4
  by_cases hE : imgE nm v cd = 0
  · rw [hE] at HE ⊢
    rw [if_pos rfl] at HE
    clear hE
    obtain ⟨p0, p1, p2, p3, p4⟩ := cellsS HP1.out
    obtain ⟨⟨x0, x1, x2, x3, x4, x5, x6, x7⟩, ⟨y0, y1, y2, y3, y4, y5, y6, y7⟩, z⟩ := cells8 HG1.out.1
    obtain ⟨⟨f0, f1, f2, f3, f4, f5, f6, f7⟩, ⟨k0, k1, k2, k3, k4, k5, k6, k7⟩, _⟩ := frees HG1.out.1
    have OQ := hide (show ∀ n, Only (fun k => k = g) w (w1.drewN n) from fun n => (Only.of_below HB1.out).after (quiet_below _ _))
    obtain ⟨tx, ty, r⟩ := t
    cases r
    · simp only [St.at, St.put, idx, Bool.not_false, Bool.not_true] at HE HT x0 x1 x2 x3 x4 x5 x6 x7 y0 y1 y2 y3 y4 y5 y6 y7 z
      cases hg : tx.good with
      | false =>
        rw [hg] at x7
        replace HE := hide (HE.out.trans (if_neg (show ¬ tx.good = true by rw [hg]; decide)))
        have HN := hide (show putT ⟨tx, ty, false⟩ ⟨nm, v, cd, p, a⟩ = ⟨tx, ty, false⟩ by rw [HT.out, HE.out, if_neg (by decide)])
        go_wp2_with (fail)
        go_quiet (fail)
        go_wp2
        go_ret
        exact ⟨by rw [HE.out]; rfl, by rw [HN.out]; exact HG1.out.below (quiet_below _ _), (Only.of_below HB1.out).after (quiet_below _ _)⟩
      | true =>
        rw [hg] at x7
        replace HE := hide (HE.out.trans (if_pos (show tx.good = true from hg)))
        have HN := hide (show putT ⟨tx, ty, false⟩ ⟨nm, v, cd, p, a⟩ = ⟨tx, ⟨⟨nm, v, cd, p, a⟩, true, 3, false⟩, false⟩ by rw [HT.out, HE.out, if_pos rfl])
        go_wp2_with (fail)
        go_quiet (fail)
        go_wp2_with (fail)
        go_region_with (fail)
        all_goals
          go_wp2
          go_ret
          refine ⟨by rw [HE.out]; rfl, ⟨?_, HG0.out.2⟩, ?_⟩
          · rw [HN.out]
            exact hs15 (hs14 (hs13 (hs12 (hs11 (hs10 (hs9 (hs8 (HG1.out.below (quiet_below w1 nq)).1)))))))
          · exact only8 rfl (OQ.out nq)
    · simp only [St.at, St.put, idx, Bool.not_false, Bool.not_true] at HE HT x0 x1 x2 x3 x4 x5 x6 x7 y0 y1 y2 y3 y4 y5 y6 y7 z
      cases hg : ty.good with
      | false =>
        rw [hg] at y7
        replace HE := hide (HE.out.trans (if_neg (show ¬ ty.good = true by rw [hg]; decide)))
        have HN := hide (show putT ⟨tx, ty, true⟩ ⟨nm, v, cd, p, a⟩ = ⟨tx, ty, true⟩ by rw [HT.out, HE.out, if_neg (by decide)])
        go_wp2_with (fail)
        go_quiet (fail)
        go_wp2
        go_ret
        exact ⟨by rw [HE.out]; rfl, by rw [HN.out]; exact HG1.out.below (quiet_below _ _), (Only.of_below HB1.out).after (quiet_below _ _)⟩
      | true =>
        rw [hg] at y7
        replace HE := hide (HE.out.trans (if_pos (show ty.good = true from hg)))
        have HN := hide (show putT ⟨tx, ty, true⟩ ⟨nm, v, cd, p, a⟩ = ⟨⟨⟨nm, v, cd, p, a⟩, true, 3, false⟩, ty, true⟩ by rw [HT.out, HE.out, if_pos rfl])
        go_wp2_with (fail)
        go_quiet (fail)
        go_wp2_with (fail)
        go_region_with (fail)
        all_goals
          go_wp2
          go_ret
          refine ⟨by rw [HE.out]; rfl, ⟨?_, HG0.out.2⟩, ?_⟩
          · rw [HN.out]
            exact hs7 (hs6 (hs5 (hs4 (hs3 (hs2 (hs1 (hs0 (HG1.out.below (quiet_below w1 nq)).1)))))))
          · exact only8 rfl (OQ.out nq)
  · rw [if_neg hE] at HE
    have HN := hide (show putT t ⟨nm, v, cd, p, a⟩ = t by rw [HT.out, HE.out, if_neg hE])
    have hz : ¬ imgE nm v cd = 0 := hE
    clear hE
    generalize imgE nm v cd = ie at *
    go_wp2
    go_ret
    exact ⟨by rw [HE.out]; rfl, by rw [HN.out]; exact HG1.out, Only.of_below HB1.out⟩
end Go.Proofs.YtojdaifnljghkabGreatDoor.SlotRef
