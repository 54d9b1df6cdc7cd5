/-
  Contracts of package bank's Digest and Same: what each returns for every bank and every mask, and that memory that was there stays as it was.
-/
import Derived.Test.YtbpgchmbmgfoaaaDoorBank1
import Derived.Deep.WholeRow
import Derived.Deep.QuietTactic
namespace Go.Proofs.YtbpgchmbmgfoaaaDoor.Bank
open Go.ChangeShapes Go.WideShapes Go.ChangeAt Go.RowKit
open Go.Proofs.YtbpgchmbmgfoaaaDoor.M Go.Proofs.YtbpgchmbmgfoaaaDoor.Measure
set_option linter.unusedVariables false

theorem info_bank : (Tryd.prog.info? 32).map (·.size) = some 8 := by kernel_rfl
/-- A bank out of its block. -/
theorem load_bank {w : World} {b : Nat} {c : Array Value} {fr : Nat × Nat} (h : w.heap[b]? = some (.cells c 32 fr)) (hs : c.size = 8) : (loadVar 32 ⟨b, 0, none⟩).run Tryd.prog w = .ok (.agg c) w :=
  run_loadVar_row w b _ _ c fr _ h Tryd.underlying32 rfl (by rw [info_bank, hs])

/-- The walk's step there: the whole bank out of the block that a slot points to. -/
theorem wpl_load {w : World} {ops : Array Oper} {rest : List Oper} {o : Oper} {a : Act} {Q : Exit → Act → World → Prop} (p : Nat) (hw : Region.wanted o (yielded ops a.tmps) = true) (ho : o.op = .load 32 (.tmp p)) (b : Nat)
    (hx : a.eval (.tmp p) = .pointer (some ⟨b, 0, none⟩)) (c : Array Value) (fr : Nat × Nat) (hg : w.heap[b]? = some (.cells c 32 fr)) (hs : c.size = 8) (h : wpList Tryd.prog ops Q rest (a.put o.dst (.agg c)) w) : wpList Tryd.prog ops Q (o :: rest) a w :=
  wpList_step fun K hK => by
    simp only [hw, if_true]
    exact wp_load_row _ (.tmp p) ho b hx _ c fr _ hg Tryd.underlying32 rfl (by rw [info_bank, hs]) (hK _ _ h)
theorem heap_below {w w' : World} {B b : Nat} {o : Obj} (h : w.heap[b]? = some o) (hb : Below B w w') (hlt : b < B) : w'.heap[b]? = some o := (hb.block b hlt).trans h

end Go.Proofs.YtbpgchmbmgfoaaaDoor.Bank
