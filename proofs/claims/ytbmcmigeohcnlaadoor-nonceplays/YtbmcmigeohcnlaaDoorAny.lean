/-
  Contracts of slices.IndexFunc and slices.ContainsFunc at a row of ints and any predicate that leaves what was there: whether any of them is so.
-/
import Derived.Test.YtbmcmigeohcnlaaDoorRows
import Derived.Test.YtbmcmigeohcnlaaDoorBankMath
import Derived.WalkKit
import Derived.ProofKit
import Derived.Handy
import Derived.Deep.LoopGhost
import Derived.Shelf.Abstract
namespace Go.Proofs.YtbmcmigeohcnlaaDoor.Any
open Go.ChangeShapes Go.WideShapes Go.ChangeAt Go.RowKit
open Go.Proofs.YtbmcmigeohcnlaaDoor.M
set_option linter.unusedVariables false

/-- What is asked of a function value: at each number of the list, in whatever world that holds what w holds, it tells p, and leaves such a world. -/
def Tells (g : Nat) (lb : Array Value) (p : Int → Bool) (xs : List Int) (w : World) : Prop :=
  ∀ (W : World) (x : Int), x ∈ xs → Below w.heap.size w W → Calls Tryd.prog g (#[.int .i64 x] ++ lb) W fun e w' => e = .returned (.bool (p x)) ∧ Below w.heap.size w w'

end Go.Proofs.YtbmcmigeohcnlaaDoor.Any
