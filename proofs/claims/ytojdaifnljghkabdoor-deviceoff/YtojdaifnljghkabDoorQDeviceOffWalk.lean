/-
  The walk of stairlaw4.DeviceOff: it returns true, and memory that was there stays as it was.
-/
import Derived.Test.YtojdaifnljghkabDoorQDeviceOb
import Derived.Test.YtojdaifnljghkabDoorPack1
import Derived.Test.YtojdaifnljghkabDoorQSign1
import Derived.Test.YtojdaifnljghkabDoorQAs
namespace Go.Proofs.YtojdaifnljghkabDoor.DeviceOff
open Go.ChangeShapes Go.WideShapes Go.ChangeAt Go.RowKit
open Go.Proofs.YtojdaifnljghkabDoor.M Go.Proofs.YtojdaifnljghkabDoor.Device Go.Proofs.YtojdaifnljghkabDoor.Image
set_option linter.unusedVariables false

theorem errV_no {T : TypeId} {k : Int} (h : ¬ k = 0) : errV T k = .iface T (.int .i64 k) := if_neg h
/-- A device that is new, and then started: what it tells of itself. -/
theorem fresh {root x : Int} {s : Sg} : (newD root x s).on = false ∧ gooE (newD root x s) = 6 ∧ gooD (newD root x s) = newD root x s ∧ runD (newD root x s) = 6 ∧ trialD (newD root x s) = false ∧
    (staD (newD root x s)).on = true ∧ (staD (newD root x s)).nm = s.nm ∧ (staD (newD root x s)).v = s.v ∧ (staD (newD root x s)).cd = s.cd ∧ runD (staD (newD root x s)) = 0 :=
  ⟨rfl, rfl, by unfold gooD; rw [if_neg (by intro h; cases h.1)], rfl, rfl, rfl, rfl, rfl, rfl, rfl⟩
theorem fresh_tel (root x : Int) (s : Sg) (k n m : Int) : telD (newD root x s) k n m = 6 ∧ telQ (newD root x s) k n m = (0, 0, 0, 0, 0) ∧ telL (newD root x s) k n m = [] := ⟨rfl, rfl, rfl⟩

set_option maxRecDepth 20000 in
set_option maxHeartbeats 4000000 in
theorem walk {Dvc : World → Nat → Value → (Nat → Prop) → DS → Prop} (LD : Core Dvc) (SL : StartLaw Dvc) (GL : GoodLaw Dvc) (TL : TellLaw Dvc) (RL : RunsLaw Dvc)
    (root x n : Int) (s : Sg) (w : World) (hs : szS s) (hh : Has w) (hg : As.Handle w) :
    Calls Tryd.prog 3 #[.int .i64 root, .int .i64 x, sgA s, .int .i64 n] w fun e w' => e = .returned (.bool true) ∧ Below w.heap.size w w' := by
  have HLD := hide LD
  have HH := hide (fun (W : World) (h : Below w.heap.size w W) => hh.below h)
  have HG := hide (fun (W : World) (h : Below w.heap.size w W) => hg.below h)
  have HSL := hide SL
  have HGL := hide GL
  have HTL := hide TL
  have HRL := hide RL
  have HSZ := hide hs
  obtain ⟨nm, v, cd, sp, sa⟩ := s
  have NO := hide (fun (W : World) (h : ¬ dvcE root x ⟨nm, v, cd, sp, sa⟩ = 0) => LD.newNo root x ⟨nm, v, cd, sp, sa⟩ W hs h)
  have NW := hide (fun (W : World) (h : M.Sep w w.heap.size [blkI w.heap.size w.heap.size (Nat.le_refl _) (.cells #[.string nm, .int .i64 v, .string cd, .int .i64 sp, .int .i64 sa] 27)] W) (hE : dvcE root x ⟨nm, v, cd, sp, sa⟩ = 0) => Device.sep_new HLD.out root x ⟨nm, v, cd, sp, sa⟩ hs hE h)
  have IC := hide (fun (W : World) => Image.check_any nm cd v W hs.1 hs.2)
  unfold imgC at IC
  unfold sgA at NO NW ⊢
  simp only [] at NO NW ⊢
  have HS0 : Hid (M.Sep w w.heap.size [blkI w.heap.size w.heap.size (Nat.le_refl _) (.cells #[.string nm, .int .i64 v, .string cd, .int .i64 sp, .int .i64 sa] 27)] (w.alloc (.cells #[.string nm, .int .i64 v, .string cd, .int .i64 sp, .int .i64 sa] 27))) := (Sep.nil (Below.refl _ _) (Nat.le_refl _)).allocz (Nat.le_refl _) _
  clear LD SL GL TL RL hs hh hg
  by_cases hE : dvcE root x ⟨nm, v, cd, sp, sa⟩ = 0
  · have NW1 := hide (NW.out _ HS0.out hE)
    clear NO NW hE IC
    go_enter Tryd.func3, Tryd.ntmps3
    go_wp2_with (fail)
    refine NW1.out.mono ?_
    rintro e w1 ⟨p, S1, rfl, hd1⟩
    have HS1 := hide hd1
    clear hd1 HS0 NW1
    obtain ⟨f1, f2, f3, f4, f5, f6, f7, f8, f9, f10⟩ := fresh (root := root) (x := x) (s := ⟨nm, v, cd, sp, sa⟩)
    obtain ⟨g1, g2, g3⟩ := fresh_tel root x ⟨nm, v, cd, sp, sa⟩ 1 n 1
    have TE := hide (sep_tel HTL.out HS1.out 1 n 1 (HH.out _ HS1.out.lo))
    rw [g1, g2, g3] at TE
    have RU1 := hide (fun W (h : M.Sep w w.heap.size (dvcI HLD.out w.heap.size p S1 (newD root x ⟨nm, v, cd, sp, sa⟩) :: [blkI w.heap.size w.heap.size (Nat.le_refl _) (.cells #[.string nm, .int .i64 v, .string cd, .int .i64 sp, .int .i64 sa] 27)]) W) => sep_run HRL.out h)
    rw [f1, f4] at RU1
    have GO := hide (fun W (h : M.Sep w w.heap.size (dvcI HLD.out w.heap.size p S1 (newD root x ⟨nm, v, cd, sp, sa⟩) :: [blkI w.heap.size w.heap.size (Nat.le_refl _) (.cells #[.string nm, .int .i64 v, .string cd, .int .i64 sp, .int .i64 sa] 27)]) W) => sep_goo HGL.out h)
    rw [f2, f3] at GO
    have ST := hide (fun W S (h : M.Sep w w.heap.size (dvcI HLD.out w.heap.size p S (newD root x ⟨nm, v, cd, sp, sa⟩) :: [blkI w.heap.size w.heap.size (Nat.le_refl _) (.cells #[.string nm, .int .i64 v, .string cd, .int .i64 sp, .int .i64 sa] 27)]) W) => sep_sta HSL.out h (HH.out _ h.lo))
    rw [f5] at ST
    have RU2 := hide (fun W S (h : M.Sep w w.heap.size (dvcI HLD.out w.heap.size p S (staD (newD root x ⟨nm, v, cd, sp, sa⟩)) :: [blkI w.heap.size w.heap.size (Nat.le_refl _) (.cells #[.string nm, .int .i64 v, .string cd, .int .i64 sp, .int .i64 sa] 27)]) W) => sep_run HRL.out h)
    rw [f6, f7, f8, f9, f10, errV_zero] at RU2
    simp only [if_true, Bool.false_eq_true, if_false, errV_no (T := 46) (show ¬ (6 : Int) = 0 by decide), List.length_nil] at TE RU1 GO ST RU2
    clear f1 f2 f3 f4 f5 f6 f7 f8 f9 f10 g1 g2 g3
    generalize staD (newD root x ⟨nm, v, cd, sp, sa⟩) = d2 at *
    generalize newD root x ⟨nm, v, cd, sp, sa⟩ = d1 at *
    go_wp2_with (fail)
    refine TE.out.mono ?_
    rintro e w2 ⟨ae, ce, rfl, _, hd2⟩
    have HS2 := hide (hd2.below (below_new w2 (.cells #[.int .i64 0, .int .i64 0, .int .i64 0, .int .i64 0, .int .i64 0] 35)))
    clear hd2 HS1 TE
    go_wp2_with (fail)
    refine (RU1.out _ HS2.out).mono ?_
    rintro e w3 ⟨rfl, hd3⟩
    have HS3 := hide (hd3.below (below_new w3 (.cells #[.string { data := #[] }, .int .i64 0, .string { data := #[] }] 23)))
    clear hd3 HS2 RU1
    go_wp2_with (fail)
    refine (GO.out _ HS3.out).mono ?_
    rintro e w4 ⟨S4, rfl, hd4⟩
    have HS4 := hide hd4
    clear hd4 HS3 GO
    go_wp2_with (fail)
    refine (ST.out _ _ HS4.out).mono ?_
    rintro e w5 ⟨S5, rfl, hd5⟩
    have HS5 := hide hd5
    clear hd5 HS4 ST
    go_wp2_with (fail)
    refine (RU2.out _ _ HS5.out).mono ?_
    rintro e w6 ⟨rfl, hd6⟩
    have hz6 := hd6.hb
    have HS6 := hide (hd6.allocz hz6 (.cells #[.string nm, .int .i64 v, .string cd] 23))
    clear hd6 HS5 RU2
    go_wp2_with (fail)
    refine (As.same_err 6 6 _ (HG.out _ HS6.out.lo)).mono ?_
    rintro e w7 ⟨rfl, hb7⟩
    have HS7 := hide (HS6.out.below hb7)
    clear hb7 HS6
    go_wp2_with (fail)
    refine (As.same_err 6 6 _ (HG.out _ HS7.out.lo)).mono ?_
    rintro e w8 ⟨rfl, hb8⟩
    have HS8 := hide (HS7.out.below hb8)
    clear hb8 HS7
    go_wp2_with (fail)
    refine (As.same_err 6 6 _ (HG.out _ HS8.out.lo)).mono ?_
    rintro e w9 ⟨rfl, hb9⟩
    have HS9 := hide (HS8.out.below hb9)
    clear hb9 HS8
    have hm : w9.heap[w6.heap.size]? = some (.cells #[.string nm, .int .i64 v, .string cd] 23) := HS9.out.p0
    have hsg : w9.heap[w.heap.size]? = some (.cells #[.string nm, .int .i64 v, .string cd, .int .i64 sp, .int .i64 sa] 27) := HS9.out.p2
    obtain ⟨r0, r1, r2⟩ := img_cells hm
    obtain ⟨q0, q1, q2, q3, q4⟩ := cells5 hsg
    clear hm hsg
    go_wp2
    go_ret
    exact ⟨rfl, HS9.out.lo⟩
  · have NO1 := hide (fun W => NO.out W hE)
    cases hc : (inB root && secB x) with
    | false =>
      rw [dvcE_no hc, errV_one] at NO1
      have hr : root < 1 ∨ 1542 < root ∨ x < 1 ∨ 256 < x := by
        apply Decidable.byContradiction
        intro hn
        have h1 : inB root = true := inB_iff.2 (by omega)
        have h2 : secB x = true := secB_iff.2 (by omega)
        rw [h1, h2] at hc
        cases hc
      clear NO NW hE hc IC
      go_enter Tryd.func3, Tryd.ntmps3
      go_wp2_with (fail)
      refine (NO1.out _).mono ?_
      rintro e w1 ⟨rfl, hb1⟩
      have HS1 := hide (HS0.out.below hb1)
      clear hb1 HS0 NO1
      by_cases c1 : root < 1
      · clear hr
        go_wp2
        go_ret
        exact ⟨rfl, HS1.out.lo⟩
      · by_cases c2 : 1542 < root
        · clear hr
          go_wp2
          go_ret
          exact ⟨rfl, HS1.out.lo⟩
        · by_cases c3 : x < 1
          · clear hr
            go_wp2
            go_ret
            exact ⟨rfl, HS1.out.lo⟩
          · have c4 : 256 < x := by omega
            clear hr
            go_wp2
            go_ret
            exact ⟨rfl, HS1.out.lo⟩
    | true =>
      rw [dvcE_img hc] at hE NO1
      rw [Bool.and_eq_true] at hc
      obtain ⟨r0, r1⟩ := inB_iff.1 hc.1
      obtain ⟨x0, x1⟩ := secB_iff.1 hc.2
      have e1 : sgE ⟨nm, v, cd, sp, sa⟩ = imgE nm v cd := rfl
      rw [e1] at hE NO1
      rw [errV_no hE] at NO1 IC
      clear NO NW e1 hc
      generalize imgE nm v cd = ie at *
      go_enter Tryd.func3, Tryd.ntmps3
      go_wp2_with (fail)
      refine (NO1.out _).mono ?_
      rintro e w1 ⟨rfl, hb1⟩
      have HS1 := hide (HS0.out.below hb1)
      clear hb1 HS0 NO1
      have hsg : w1.heap[w.heap.size]? = some (.cells #[.string nm, .int .i64 v, .string cd, .int .i64 sp, .int .i64 sa] 27) := HS1.out.p0
      obtain ⟨q0, q1, q2, q3, q4⟩ := cells5 hsg
      clear hsg
      go_wp2_with (fail)
      refine (IC.out _).mono ?_
      rintro e w2 ⟨rfl, hb2⟩
      have HS2 := hide (HS1.out.below hb2)
      clear hb2 HS1 IC
      go_wp2
      go_ret
      exact ⟨rfl, HS2.out.lo⟩
end Go.Proofs.YtojdaifnljghkabDoor.DeviceOff
