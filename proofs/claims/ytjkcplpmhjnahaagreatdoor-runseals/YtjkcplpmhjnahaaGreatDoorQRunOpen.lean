/-
  What the listed variables give the walk of a law that runs a session: run.errBad holds an error of its own, whose text is "bad".
-/
import Derived.Test.YtjkcplpmhjnahaaGreatDoorPack1
import Derived.Test.YtjkcplpmhjnahaaGreatDoorQRunObj
namespace Go.Proofs.YtjkcplpmhjnahaaGreatDoor.RunOpen
open Go.ChangeShapes Go.WideShapes Go.ChangeAt Go.RowKit
open Go.Proofs.YtjkcplpmhjnahaaGreatDoor.M

theorem bad_of {W : World} {nB : String} {q : List (String × DataW Unit)} (hB : Tryz.prog.globalNamed nB = some 0)
    (h6 : laidMet Tryz.prog ((nB, Rows.laid_bootstair_run_errBad) :: q) W) : ∃ a, Run.BadAt a W := by
  obtain ⟨a, s, hv, hc, hs, _⟩ := laid_sentinel (ti := 47) (tp := 190) (te := 192) (ts := 9) h6 hB (by kernel_rfl) Tryz.underlying47 (fun u hu => typeName_ptr_named (nm := "errors.errorString") (by kernel_rfl) (by kernel_rfl) (by decide) u (hu.trans (congrArg some (by decide)))) Tryz.underlying190 Tryz.underlying192 rfl rfl Tryz.underlying9 (by kernel_rfl) (by kernel_rfl)
  have hc0 := World.var?_cell hB hv 0
  have e : s = Run.badS := by
    cases s
    simpa [Run.badS, ByteArray.mk.injEq, ← Array.toList_inj] using hs
  exact ⟨a, by simpa using hc0, by rw [← e]; exact hc⟩
end Go.Proofs.YtjkcplpmhjnahaaGreatDoor.RunOpen
