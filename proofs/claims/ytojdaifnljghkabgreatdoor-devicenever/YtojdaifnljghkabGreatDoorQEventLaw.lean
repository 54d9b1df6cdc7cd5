/-
  What is to be proved of package event's functions: what Check, Replay and Match return, and that memory that was there stays as it was.
-/
import Derived.Test.YtojdaifnljghkabGreatDoorPack2
import Derived.Test.YtojdaifnljghkabGreatDoorPack1
namespace Go.Proofs.YtojdaifnljghkabGreatDoor.M
def repP (l : List (Int × Int)) : List Int := if evE l = 0 then repV l else noBank
def matE (l : List (Int × Int)) (ys : List Int) (m : Int) : Int := if evE l = 0 then sameE (repV l) ys m else evE l
def matV (l : List (Int × Int)) (ys : List Int) (m : Int) : Bool := if evE l = 0 then sameV (repV l) ys m else false
end Go.Proofs.YtojdaifnljghkabGreatDoor.M
namespace Go.Proofs.YtojdaifnljghkabGreatDoor.Event
open Go.ChangeShapes Go.WideShapes Go.ChangeAt Go.RowKit
open Go.Proofs.YtojdaifnljghkabGreatDoor.M

def CheckLaw : Prop := ∀ (a : Option Addr) (l : List (Int × Int)) (n cap : Nat) (w : World), n = l.length → n ≤ maxLen → RRow 2 evV w a l →
  Calls Tryz.prog 78 #[.slice a n cap] w fun e w' => e = .returned (errV 96 (evE l)) ∧ Below w.heap.size w w'
def ReplayLaw : Prop := ∀ (a : Option Addr) (l : List (Int × Int)) (n cap : Nat) (w : World), n = l.length → n ≤ maxLen → RRow 2 evV w a l →
  Calls Tryz.prog 38 #[.slice a n cap] w fun e w' => e = .returned (.tuple #[.agg (bankC (repP l)), errV 96 (evE l)]) ∧ Below w.heap.size w w'
end Go.Proofs.YtojdaifnljghkabGreatDoor.Event
