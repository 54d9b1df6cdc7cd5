/-
  What is to be proved of package event's functions: what Check, Replay and Match return, and that memory that was there stays as it was.
-/
import Derived.Test.YteebkpjnihffiaaDoorEventMath
import Derived.Test.YteebkpjnihffiaaDoorRec
import Derived.Test.YteebkpjnihffiaaDoorInts
import Derived.Test.YteebkpjnihffiaaDoorHeap
import Derived.Test.YteebkpjnihffiaaDoorMeasure
namespace Go.Proofs.YteebkpjnihffiaaDoor.M
def repP (l : List (Int × Int)) : List Int := if evE l = 0 then repV l else noBank
def matE (l : List (Int × Int)) (ys : List Int) (m : Int) : Int := if evE l = 0 then sameE (repV l) ys m else evE l
def matV (l : List (Int × Int)) (ys : List Int) (m : Int) : Bool := if evE l = 0 then sameV (repV l) ys m else false
end Go.Proofs.YteebkpjnihffiaaDoor.M
namespace Go.Proofs.YteebkpjnihffiaaDoor.Event
open Go.ChangeShapes Go.WideShapes Go.ChangeAt Go.RowKit
open Go.Proofs.YteebkpjnihffiaaDoor.M

def CheckLaw : Prop := ∀ (a : Option Addr) (l : List (Int × Int)) (n cap : Nat) (w : World), n = l.length → n ≤ maxLen → RRow 2 evV w a l →
  Calls Tryd.prog 13 #[.slice a n cap] w fun e w' => e = .returned (errV 63 (evE l)) ∧ Below w.heap.size w w'
def ReplayLaw : Prop := ∀ (a : Option Addr) (l : List (Int × Int)) (n cap : Nat) (w : World), n = l.length → n ≤ maxLen → RRow 2 evV w a l →
  Calls Tryd.prog 8 #[.slice a n cap] w fun e w' => e = .returned (.tuple #[.agg (bankC (repP l)), errV 63 (evE l)]) ∧ Below w.heap.size w w'
def MatchLaw : Prop := ∀ (a : Option Addr) (l : List (Int × Int)) (n cap : Nat) (ys : List Int) (c : Array Value) (m : Int) (w : World), n = l.length → n ≤ maxLen → RRow 2 evV w a l → c = bankC ys → ys.length = 8 →
  Calls Tryd.prog 17 #[.slice a n cap, .agg c, .int .i64 m] w fun e w' => e = .returned (.tuple #[.bool (matV l ys m), errV 63 (matE l ys m)]) ∧ Below w.heap.size w w'
end Go.Proofs.YteebkpjnihffiaaDoor.Event
