/-
  What is to be proved of package judge's Sure: what it returns, and that memory that was there stays as it was.
-/
import Derived.Test.YtojdaifnljghkabGreatDoorQJudgeMath
import Derived.Test.YtojdaifnljghkabGreatDoorQOpenR
import Derived.Test.YtojdaifnljghkabGreatDoorQCells
import Derived.Test.YtojdaifnljghkabGreatDoorPack1
namespace Go.Proofs.YtojdaifnljghkabGreatDoor.Judge
open Go.ChangeShapes Go.WideShapes Go.ChangeAt Go.RowKit
open Go.Proofs.YtojdaifnljghkabGreatDoor.M

def SureLaw : Prop := ∀ (pub : Int) (q : Int × Int × Int × Int × Int) (nn : Int) (a : Option Addr) (es : List (Int × Int)) (n cap : Nat) (ar : Option Addr) (rl : List (Int × Value × List Int)) (nr cr : Nat) (w : World),
  n = es.length → n ≤ maxLen → RRow 2 evV w a es → nr = rl.length → nr ≤ maxLen → nr ≤ cr → RulesIn w ar rl →
  Calls Tryz.prog 16 #[.int .i64 pub, .agg #[.int .i64 q.1, .int .i64 q.2.1, .int .i64 q.2.2.1, .int .i64 q.2.2.2.1, .int .i64 q.2.2.2.2], .int .i64 nn, .slice a n cap, .slice ar nr cr] w fun e w' => e = .returned (errV 96 (surE pub q nn es (rulesL rl))) ∧ Below w.heap.size w w'
end Go.Proofs.YtojdaifnljghkabGreatDoor.Judge
