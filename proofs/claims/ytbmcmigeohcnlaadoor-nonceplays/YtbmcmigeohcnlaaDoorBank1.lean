/-
  Contracts of package bank's Check, isMask and asked: what each returns, and that memory that was there stays as it was.
-/
import Derived.Test.YtbmcmigeohcnlaaDoorMeasure
import Derived.Test.YtbmcmigeohcnlaaDoorAny
import Derived.Deep.DeepCutAuto
namespace Go.Proofs.YtbmcmigeohcnlaaDoor.Bank
open Go.ChangeShapes Go.WideShapes Go.ChangeAt Go.RowKit
open Go.Proofs.YtbmcmigeohcnlaaDoor.M Go.Proofs.YtbmcmigeohcnlaaDoor.Measure
set_option linter.unusedVariables false

theorem info_int : (Tryd.prog.info? 3).map (fun i => (i.zero, i.size, i.bytes)) = some (some (.int .i64 0), 1, 8) := by kernel_rfl

end Go.Proofs.YtbmcmigeohcnlaaDoor.Bank
