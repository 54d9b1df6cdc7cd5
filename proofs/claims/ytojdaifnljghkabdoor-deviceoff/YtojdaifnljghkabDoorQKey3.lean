/-
  Contracts of package key's Check and Hold over this translation: what each returns, and that memory that was there stays as it was.
-/
import Derived.Test.YtojdaifnljghkabDoorQKey2
import Derived.Deep.QuietTactic
import Derived.BigQuiet
namespace Go.Proofs.YtojdaifnljghkabDoor.Key
open Go.ChangeShapes Go.WideShapes Go.ChangeAt Go.RowKit
open Go.Proofs.YtojdaifnljghkabDoor.M Go.Proofs.YtojdaifnljghkabDoor.Measure
set_option linter.unusedVariables false

theorem below_quiet {B : Nat} {a w : World} (h : Below B a w) : ∀ n, Below B a (w.drewN n)
  | 0 => h
  | n + 1 => Below.drew (below_quiet h n)

end Go.Proofs.YtojdaifnljghkabDoor.Key
