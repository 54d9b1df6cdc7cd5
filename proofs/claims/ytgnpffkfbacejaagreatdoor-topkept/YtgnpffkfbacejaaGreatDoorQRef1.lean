/-
  Contracts of what package stairref1 says on measures (Is, Text, Two, All): each returns what the plain mathematics says, and memory stays as it was.
-/
import Derived.Test.YtgnpffkfbacejaaGreatDoorRows
import Derived.Test.YtgnpffkfbacejaaGreatDoorPack1
import Derived.WalkKit
import Derived.ProofKit
import Derived.Handy
namespace Go.Proofs.YtgnpffkfbacejaaGreatDoor.Ref
open Go.ChangeShapes Go.WideShapes Go.ChangeAt Go.RowKit
open Go.Proofs.YtgnpffkfbacejaaGreatDoor.M
set_option linter.unusedVariables false

theorem ret_int {k : IntKind} {a b : Int} (h : a = b) : Ending.returned (.int k a) = .returned (.int k b) := by rw [h]

end Go.Proofs.YtgnpffkfbacejaaGreatDoor.Ref
