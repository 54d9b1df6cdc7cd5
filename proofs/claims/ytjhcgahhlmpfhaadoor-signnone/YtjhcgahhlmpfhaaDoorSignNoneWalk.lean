/-
  The walk of stairlaw4.SignNone: it returns true, and memory that was there stays as it was.
-/
import Derived.Test.YtjhcgahhlmpfhaaDoorSign1
namespace Go.Proofs.YtjhcgahhlmpfhaaDoor.SignNone
open Go.ChangeShapes Go.WideShapes Go.ChangeAt Go.RowKit
open Go.Proofs.YtjhcgahhlmpfhaaDoor.M Go.Proofs.YtjhcgahhlmpfhaaDoor.Image
set_option linter.unusedVariables false

set_option maxHeartbeats 1000000 in
theorem walk (q v : Int) (nm cd : ByteArray) (w : World) (hn : nm.size ≤ 140737488351232) (hc : cd.size ≤ 140737488351232) (hh : Has w) :
    Calls Tryd.prog 5 #[.int .i64 q, .agg (imgC nm v cd)] w fun e w' => e = .returned (.bool true) ∧ Below w.heap.size w w' := by
  have HB := hide (below_new w (.cells (imgC nm v cd) 23))
  have CK := hide (fun (W : World) (h : Has W) => Sign.check_any q v 0 0 nm cd W hn hc h)
  rw [errV_ne (sld_none (q := q) (nm := nm) (v := v) (cd := cd))] at CK
  have HH := hide (hh.below HB.out)
  clear hh
  unfold imgC at HB HH ⊢
  unfold sgnC at CK
  generalize sldE q nm v cd 0 0 = z at *
  go_enter Tryd.func5, Tryd.ntmps5
  go_wp2_with (fail)
  refine (CK.out _ HH.out).mono ?_
  rintro e w1 ⟨rfl, hb1⟩
  have HB1 := hide (below_on HB.out hb1)
  clear hb1
  go_wp2
  go_ret
  exact ⟨rfl, HB1.out⟩
end Go.Proofs.YtjhcgahhlmpfhaaDoor.SignNone
