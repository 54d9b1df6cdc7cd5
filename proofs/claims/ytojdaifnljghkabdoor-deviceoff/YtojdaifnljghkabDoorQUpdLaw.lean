/-
  What is to be proved of package update's functions: what May and Do return, what becomes of the slots, and that all else stays as it was.
-/
import Derived.Test.YtojdaifnljghkabDoorQUpdMath
import Derived.Test.YtojdaifnljghkabDoorQCntLaw
import Derived.Test.YtojdaifnljghkabDoorQSlotLaw
import Derived.Test.YtojdaifnljghkabDoorQRec
import Derived.Test.YtojdaifnljghkabDoorPack1
namespace Go.Proofs.YtojdaifnljghkabDoor.M
/-- What both slots hold can be read whole. -/
def szT (t : St) : Prop := szS t.x.s ∧ szS t.y.s
theorem szT.at {t : St} (h : szT t) (i : Bool) : szS (t.at i).s := match i with | false => h.1 | true => h.2
theorem szS_none : szS noSg := ⟨by decide, by decide⟩
theorem szT.new {s : Sg} (h : szS s) : szT (newT s) := ⟨h, szS_none⟩
theorem szT.put {t : St} (h : szT t) (i : Bool) {l : Sl} (hl : szS l.s) : szT (t.put i l) := match i with | false => ⟨hl, h.2⟩ | true => ⟨h.1, hl⟩
theorem szT.run {t : St} (h : szT t) (i : Bool) : szT (runT t i) := h
theorem szT.putT {t : St} (h : szT t) {s : Sg} (hs : szS s) : szT (putT t s) := by
  unfold M.putT
  split
  · exact h.put _ hs
  · exact h
theorem szT.good {t : St} (h : szT t) : szT (goodT t) := by
  unfold goodT
  split
  · exact h
  · exact (h.put t.r (l := { (t.at t.r) with good := true, tries := 0 }) (h.at t.r)).put _ szS_none
theorem lessL_s (l : Sl) : (lessL l).s = l.s := by unfold lessL; split <;> rfl
theorem szT.start {t : St} (h : szT t) : szT (startT t) := by
  unfold startT
  exact (h.run _).put _ (by rw [lessL_s]; exact h.at _)
theorem szT.doT {root : Int} {l : List (Int × Int × Int)} {f : ByteArray → Int} {t : St} (h : szT t) {s : Sg} (hs : szS s) : szT (M.doT root l f t s) := by
  unfold M.doT
  split
  · exact h.putT hs
  · exact h
end Go.Proofs.YtojdaifnljghkabDoor.M
namespace Go.Proofs.YtojdaifnljghkabDoor.Update
open Go.ChangeShapes Go.WideShapes Go.ChangeAt Go.RowKit
open Go.Proofs.YtojdaifnljghkabDoor.M
set_option linter.unusedVariables false

end Go.Proofs.YtojdaifnljghkabDoor.Update
