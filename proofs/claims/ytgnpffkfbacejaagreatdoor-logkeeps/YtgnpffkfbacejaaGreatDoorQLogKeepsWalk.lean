/-
  A part of the walk of stairlaw3.LogKeeps: the whole.
-/
import Derived.Test.YtgnpffkfbacejaaGreatDoorQLogKeepsHead
import Derived.Test.YtgnpffkfbacejaaGreatDoorQLogKeepsLoop
namespace Go.Proofs.YtgnpffkfbacejaaGreatDoor.LogKeeps
open Go.ChangeShapes Go.WideShapes Go.ChangeAt Go.RowKit
open Go.Proofs.YtgnpffkfbacejaaGreatDoor.M Go.Proofs.YtgnpffkfbacejaaGreatDoor.Log
set_option linter.unusedVariables false

theorem walk : WalkSt := walk_of loop
end Go.Proofs.YtgnpffkfbacejaaGreatDoor.LogKeeps
