/-
  What the library's variables hold that strconv reads, and contracts of strconv.Itoa, strconv.Atoi and strings.Clone as the program calls them, over the shelf's; memory that was there stays as it was.
-/
import Derived.Test.YtohojmfhmpgcmaaDoorImg1
import Derived.Test.YtohojmfhmpgcmaaDoorTextMath
import Derived.Shelf.Strconv.Atoi
import Derived.Shelf.Strconv.AtoiErr
import Derived.Shelf.Strconv.Itoa3
import Derived.Shelf.Strconv.Clone
import Derived.WalkSmall
import Derived.Lib.AtoiErrMem
namespace Go.Proofs.YtohojmfhmpgcmaaDoor.Image
open Go.ChangeShapes Go.WideShapes Go.ChangeAt Go.RowKit
open Go.Proofs.YtohojmfhmpgcmaaDoor.M
set_option linter.unusedVariables false

/-- Nothing is asked where nothing is printed. -/
def Has (w : World) : Prop := True
/-- It stays. -/
theorem Has.below {w w' : World} (h : Has w) (hb : Below w.heap.size w w') : Has w' := trivial

theorem clone_any (s : ByteArray) (w : World) (hl : s.size ≤ 140737488351232) :
    Calls Tryd.prog 32 #[.string s] w fun e w' => e = .returned (.string s) ∧ Below w.heap.size w w' := by
  go_enter Tryd.func32, Tryd.ntmps32
  go_wp2_with (go_at_call 38; refine (Any.stringslite_Clone Tryd.lays316 s _ ?_).mono ?_; omega; rintro e w' ⟨rfl, hb⟩)
  go_ret
  exact ⟨rfl, hb⟩
end Go.Proofs.YtohojmfhmpgcmaaDoor.Image
