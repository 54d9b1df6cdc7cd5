/-
  Contract of what package stairref1 says on challenges: it returns what the plain mathematics says, and memory that was there stays as it was.
-/
import Derived.Test.YtjkcplpmhjnahaaGreatDoorPack1
namespace Go.Proofs.YtjkcplpmhjnahaaGreatDoor.Ref
open Go.ChangeShapes Go.WideShapes Go.ChangeAt Go.RowKit
open Go.Proofs.YtjkcplpmhjnahaaGreatDoor.M
set_option linter.unusedVariables false

set_option maxHeartbeats 1000000 in
theorem challenge_ok (p q m : Int) (w : World) (hp : isM p = true) (hq : isM q = true) (hm : isM m = true) :
    Calls Tryz.prog 40 #[.int .i64 p, .int .i64 q, .int .i64 m] w fun e w' => e = .returned (.int .i64 (chV p q m)) ∧ Below w.heap.size w w' := by
  have HO := hide (show okAll [p, q, m] = true by rw [ok_three hp hq, hm])
  have HC := hide (chV_ok hp hq hm)
  have hr := allFrom_range 0 [p, q, m] (by omega) (by omega)
  clear hp hq hm
  obtain ⟨r0, r1⟩ := hr
  go_enter Tryz.func40, Tryz.ntmps40
  go_wp2_with (fail)
  refine (all_ok _ [p, q, m] 3 _ _ rfl (by omega) (Row.three (blk_new _ _)) HO.out).mono ?_
  rintro e w1 ⟨rfl, rfl⟩
  generalize allFrom 0 [p, q, m] = r at *
  go_wp2
  go_ret
  exact ⟨by rw [HC.out]; rfl, below_new _ _⟩
end Go.Proofs.YtjkcplpmhjnahaaGreatDoor.Ref
