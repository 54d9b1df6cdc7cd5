/-
  What is to be proved of package event's functions: what Check, Replay and Match return, and that memory that was there stays as it was.
-/
import Derived.Test.YteebkpjnihffiaaEventMath
import Derived.Test.YteebkpjnihffiaaRec
import Derived.Test.YteebkpjnihffiaaInts
import Derived.Test.YteebkpjnihffiaaHeap
import Derived.Test.YteebkpjnihffiaaMeasure
namespace Go.Proofs.Yteebkpjnihffiaa.M
def repP (l : List (Int × Int)) : List Int := if evE l = 0 then repV l else noBank
def matE (l : List (Int × Int)) (ys : List Int) (m : Int) : Int := if evE l = 0 then sameE (repV l) ys m else evE l
def matV (l : List (Int × Int)) (ys : List Int) (m : Int) : Bool := if evE l = 0 then sameV (repV l) ys m else false
end Go.Proofs.Yteebkpjnihffiaa.M
namespace Go.Proofs.Yteebkpjnihffiaa.Event
open Go.ChangeShapes Go.WideShapes Go.ChangeAt Go.RowKit
open Go.Proofs.Yteebkpjnihffiaa.M

def CheckLaw : Prop := ∀ (a : Option Addr) (l : List (Int × Int)) (n cap : Nat) (w : World), n = l.length → n ≤ maxLen → RRow 2 evV w a l →
  Calls Try.prog 7 #[.slice a n cap] w fun e w' => e = .returned (errV 40 (evE l)) ∧ Below w.heap.size w w'
def ReplayLaw : Prop := ∀ (a : Option Addr) (l : List (Int × Int)) (n cap : Nat) (w : World), n = l.length → n ≤ maxLen → RRow 2 evV w a l →
  Calls Try.prog 5 #[.slice a n cap] w fun e w' => e = .returned (.tuple #[.agg (bankC (repP l)), errV 40 (evE l)]) ∧ Below w.heap.size w w'
def MatchLaw : Prop := ∀ (a : Option Addr) (l : List (Int × Int)) (n cap : Nat) (ys : List Int) (c : Array Value) (m : Int) (w : World), n = l.length → n ≤ maxLen → RRow 2 evV w a l → c = bankC ys → ys.length = 8 →
  Calls Try.prog 8 #[.slice a n cap, .agg c, .int .i64 m] w fun e w' => e = .returned (.tuple #[.bool (matV l ys m), errV 40 (matE l ys m)]) ∧ Below w.heap.size w w'
end Go.Proofs.Yteebkpjnihffiaa.Event
