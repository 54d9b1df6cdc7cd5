/-
  Contracts of what package stairref2 says on slots (NewSlots, Safe, Pick): what each returns, and that memory that was there stays as it was.
-/
import Derived.Test.YtojdaifnljghkabGreatDoorPack1
import Derived.Deep.RegionHeld3
import Derived.Deep.DeepCutAuto
namespace Go.Proofs.YtojdaifnljghkabGreatDoor.SlotRef
open Go.ChangeShapes Go.WideShapes Go.ChangeAt Go.RowKit
open Go.Proofs.YtojdaifnljghkabGreatDoor.M
set_option linter.unusedVariables false

def SIs (W : World) (B g : Nat) (t : St) : Prop := W.heap[g]? = some (.cells (stC t) 129) ∧ B ≤ g
theorem SIs.only {W W' : World} {S : Nat → Prop} {B g : Nat} {t : St} (h : SIs W B g t) (ho : Only S W W') (hn : ¬ S g) : SIs W' B g t := ⟨ho.heap h.1 hn, h.2⟩
theorem SIs.below {W W' : World} {B g : Nat} {t : St} (h : SIs W B g t) (hb : Below W.heap.size W W') : SIs W' B g t := ⟨blk_below h.1 hb, h.2⟩

set_option maxHeartbeats 2000000 in
theorem safe_any (g : Nat) (t : St) (w : World) (B : Nat) (h : SIs w B g t) :
    Calls Tryz.prog 34 #[.pointer (some ⟨g, 0, none⟩)] w fun e w' => e = .returned (.int .i64 (idx (safeT t))) ∧ Below w.heap.size w w' := by
  obtain ⟨x, y, r⟩ := t
  obtain ⟨xs, xf, xt, xg⟩ := x
  obtain ⟨ys, yf, yt, yg⟩ := y
  have c7 := at_cell h.1 7
  have c15 := at_cell h.1 15
  have c16 := at_cell h.1 16
  simp [stC] at c7 c15 c16
  clear h
  cases r <;> cases xg <;> cases yg <;> simp only [idx] at c16
  all_goals
    go_enter Tryz.func34, Tryz.ntmps34
    go_wp2_with (fail)
    go_quiet (fail)
    go_wp2
    go_ret
    exact ⟨rfl, quiet_below _ _⟩


set_option maxHeartbeats 4000000 in
theorem pick_any (g : Nat) (t : St) (w : World) (B : Nat) (h : SIs w B g t) :
    Calls Tryz.prog 33 #[.pointer (some ⟨g, 0, none⟩)] w fun e w' => e = .returned (.int .i64 (idx (pickT t))) ∧ Below w.heap.size w w' := by
  have SF := hide (safe_any g t w B h)
  have HG := hide h
  have HP := hide (show pickT t = if (t.at (!safeT t)).full = true ∧ (t.at (!safeT t)).good = false ∧ 0 < (t.at (!safeT t)).tries then !safeT t else safeT t from rfl)
  clear h
  generalize safeT t = q at *
  cases q
  all_goals
    go_enter Tryz.func33, Tryz.ntmps33
    simp only [idx] at SF
    go_wp2_with (fail)
    refine SF.out.mono ?_
    rintro e w1 ⟨rfl, hb1⟩
    have HB1 := hide hb1
    obtain ⟨⟨x0, x1, x2, x3, x4, x5, x6, x7⟩, ⟨y0, y1, y2, y3, y4, y5, y6, y7⟩, _⟩ := cells8 (HG.out.below hb1).1
    clear hb1 SF
    have hlt := blk_lt (HG.out.below HB1.out).1
    simp only [St.at, Bool.not_false, Bool.not_true] at HP
  · generalize t.y.full = of at *
    generalize t.y.good = og at *
    generalize t.y.tries = ot at *
    by_cases ht : 0 < ot
    · cases of <;> cases og
      all_goals
        go_wp2
        go_ret
        exact ⟨by rw [HP.out]; first | (have h9 : 0 < ot := (by omega); simp [h9, idx]) | (have h9 : ¬ 0 < ot := (by omega); simp [h9, idx]), below_on HB1.out (below_new _ _)⟩
    · cases of <;> cases og
      all_goals
        go_wp2
        go_ret
        exact ⟨by rw [HP.out]; first | (have h9 : 0 < ot := (by omega); simp [h9, idx]) | (have h9 : ¬ 0 < ot := (by omega); simp [h9, idx]), below_on HB1.out (below_new _ _)⟩
  · generalize t.x.full = of at *
    generalize t.x.good = og at *
    generalize t.x.tries = ot at *
    by_cases ht : 0 < ot
    · cases of <;> cases og
      all_goals
        go_wp2
        go_ret
        exact ⟨by rw [HP.out]; first | (have h9 : 0 < ot := (by omega); simp [h9, idx]) | (have h9 : ¬ 0 < ot := (by omega); simp [h9, idx]), below_on HB1.out (below_new _ _)⟩
    · cases of <;> cases og
      all_goals
        go_wp2
        go_ret
        exact ⟨by rw [HP.out]; first | (have h9 : 0 < ot := (by omega); simp [h9, idx]) | (have h9 : ¬ 0 < ot := (by omega); simp [h9, idx]), below_on HB1.out (below_new _ _)⟩
end Go.Proofs.YtojdaifnljghkabGreatDoor.SlotRef
