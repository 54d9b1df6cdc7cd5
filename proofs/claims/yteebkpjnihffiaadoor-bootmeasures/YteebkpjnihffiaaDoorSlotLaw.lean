/-
  What is to be proved of package slot's object, whatever it is made of: how it lies in memory, and what New, Put, Pick, Start, Good and At do to it.
-/
import Derived.Test.YteebkpjnihffiaaDoorSlotMath
import Derived.Test.YteebkpjnihffiaaDoorOnly
import Derived.Test.YteebkpjnihffiaaDoorMeasure
namespace Go.Proofs.YteebkpjnihffiaaDoor.M
/-- A signed image, and a slot, as values. -/
def sgA (s : Sg) : Value := .agg #[.string s.nm, .int .i64 s.v, .string s.cd, .int .i64 s.p, .int .i64 s.a]
def slA (l : Sl) : Value := .agg #[.string l.s.nm, .int .i64 l.s.v, .string l.s.cd, .int .i64 l.s.p, .int .i64 l.s.a, .bool l.full, .int .i64 l.tries, .bool l.good]
def szS (s : Sg) : Prop := s.nm.size ≤ 140737488351232 ∧ s.cd.size ≤ 140737488351232
def atE (i : Int) : Int := if i = 0 ∨ i = 1 then 0 else 1
def atL (t : St) (i : Int) : Sl := if i = 0 then t.x else if i = 1 then t.y else noSl
end Go.Proofs.YteebkpjnihffiaaDoor.M
namespace Go.Proofs.YteebkpjnihffiaaDoor.Slot
open Go.ChangeShapes Go.WideShapes Go.ChangeAt Go.RowKit
open Go.Proofs.YteebkpjnihffiaaDoor.M
set_option linter.unusedVariables false

end Go.Proofs.YteebkpjnihffiaaDoor.Slot
