/-
  What is to be proved of package boot's Run: what it returns, and that memory that was there stays as it was.
-/
import Derived.Test.YtidnjnhmkhekeaaDoorQBootMath
import Derived.Test.YtidnjnhmkhekeaaDoorPack2
import Derived.Test.YtidnjnhmkhekeaaDoorPack1
namespace Go.Proofs.YtidnjnhmkhekeaaDoor.Boot
open Go.ChangeShapes Go.WideShapes Go.ChangeAt Go.RowKit
open Go.Proofs.YtidnjnhmkhekeaaDoor.M

def RunLaw : Prop := ∀ (q : Int) (a : Option Addr) (l : List Sg) (n cap : Nat) (w : World), n = l.length → n ≤ maxLen → RRow 5 sgV w a l → (∀ s ∈ l, szS s) → Image.Has w →
  Calls Tryd.prog 24 #[.int .i64 q, .slice a n cap] w fun e w' => (∃ ae ce, e = .returned (.tuple #[.agg (bankC (botB q l)), .slice ae (botL q l).length ce, .int .i64 (botN q l), errV 77 (botE q l)]) ∧ RRow 2 evV w' ae (botL q l)) ∧ Below w.heap.size w w'
/-- The same, and that the events lie in new memory (what a caller who keeps them asks). -/
def RunFresh : Prop := ∀ (q : Int) (a : Option Addr) (l : List Sg) (n cap : Nat) (w : World), n = l.length → n ≤ maxLen → RRow 5 sgV w a l → (∀ s ∈ l, szS s) → Image.Has w →
  Calls Tryd.prog 24 #[.int .i64 q, .slice a n cap] w fun e w' => (∃ ae ce, e = .returned (.tuple #[.agg (bankC (botB q l)), .slice ae (botL q l).length ce, .int .i64 (botN q l), errV 77 (botE q l)]) ∧ RRow 2 evV w' ae (botL q l) ∧ (∀ k, ae.map (·.block) = some k → w.heap.size ≤ k)) ∧ Below w.heap.size w w'
theorem RunFresh.law (h : RunFresh) : RunLaw := by
  intro q a l n cap w hn hm hr hs hh
  refine (h q a l n cap w hn hm hr hs hh).mono ?_
  rintro e w' ⟨⟨ae, ce, h1, h2, _⟩, h3⟩
  exact ⟨⟨ae, ce, h1, h2⟩, h3⟩
end Go.Proofs.YtidnjnhmkhekeaaDoor.Boot
