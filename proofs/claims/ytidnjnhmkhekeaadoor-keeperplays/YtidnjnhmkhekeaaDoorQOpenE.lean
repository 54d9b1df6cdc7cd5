/-
  How a slice of events among the arguments reads, opened: rows of two ints.
-/
import Derived.Test.YtidnjnhmkhekeaaDoorPack1
namespace Go.Proofs.YtidnjnhmkhekeaaDoor.OpenE
open Go.ChangeShapes Go.WideShapes Go.ChangeAt Go.RowKit
open Go.Proofs.YtidnjnhmkhekeaaDoor.M

theorem read {H : Type} {enc : TypeId × Value → H} {P : Program} {W : World} {b0 : Nat} {sp : Nat → Bool} {hd : Bool} {e : TypeId} {f0 f1 : Field}
    (hu : P.underlying e = some (.struct #[f0, f1])) (h0 : P.underlying f0.type = some (.int .i64)) (h1 : P.underlying f1.type = some (.int .i64))
    (o0 : f0.offset = 0) (o1 : f1.offset = 1) (c0 : P.cellsOf f0.type = 1) (c1 : P.cellsOf f1.type = 1) (ce : P.cellsOf e = 2)
    (fuel : Nat) (cs : List Value) (x : DataW H × List MemPlace) (h : DataW.trod enc P W b0 sp hd fuel e cs = some x) : ∃ r : Int × Int, cs = evV r := by
  obtain ⟨xs, m, _, _, hlen, hl, hy⟩ := DataW.trod_struct hu h
  have hl2 : xs.length = 2 := hl
  obtain ⟨x0, x1, rfl⟩ : ∃ x0 x1, xs = [x0, x1] := by
    match xs, hl2 with
    | [x0, x1], _ => exact ⟨x0, x1, rfl⟩
  have q0 := hy 0 f0 rfl
  have q1 := hy 1 f1 rfl
  rw [o0, c0] at q0
  rw [o1, c1] at q1
  rw [ce] at hlen
  obtain ⟨a, ea, _, _⟩ := DataW.trod_int h0 q0
  obtain ⟨b, eb, _, _⟩ := DataW.trod_int h1 q1
  match cs, hlen with
  | [u, v], _ =>
    simp at ea eb
    exact ⟨(a, b), by rw [ea, eb]; rfl⟩
end Go.Proofs.YtidnjnhmkhekeaaDoor.OpenE
