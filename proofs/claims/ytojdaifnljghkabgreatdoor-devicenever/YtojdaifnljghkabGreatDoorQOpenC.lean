/-
  How a slice of certs among the arguments reads, opened: rows of three ints.
-/
import Derived.Test.YtojdaifnljghkabGreatDoorPack1
namespace Go.Proofs.YtojdaifnljghkabGreatDoor.OpenC
open Go.ChangeShapes Go.WideShapes Go.ChangeAt Go.RowKit
open Go.Proofs.YtojdaifnljghkabGreatDoor.M

theorem read {H : Type} {enc : TypeId × Value → H} {P : Program} {W : World} {b0 : Nat} {sp : Nat → Bool} {hd : Bool} {e : TypeId} {f0 f1 g0 g1 : Field}
    (hu : P.underlying e = some (.struct #[f0, f1])) (h0 : P.underlying f0.type = some (.int .i64)) (h1 : P.underlying f1.type = some (.struct #[g0, g1])) (k0 : P.underlying g0.type = some (.int .i64)) (k1 : P.underlying g1.type = some (.int .i64))
    (o0 : f0.offset = 0) (o1 : f1.offset = 1) (p0 : g0.offset = 0) (p1 : g1.offset = 1)
    (c0 : P.cellsOf f0.type = 1) (c1 : P.cellsOf f1.type = 2) (d0 : P.cellsOf g0.type = 1) (d1 : P.cellsOf g1.type = 1) (ce : P.cellsOf e = 3)
    (fuel : Nat) (cs : List Value) (x : DataW H × List MemPlace) (h : DataW.trod enc P W b0 sp hd fuel e cs = some x) : ∃ r : Int × Int × Int, cs = certV r := by
  obtain ⟨xs, m, _, _, hlen, hl, hy⟩ := DataW.trod_struct hu h
  have hl2 : xs.length = 2 := hl
  obtain ⟨x0, x1, rfl⟩ : ∃ x0 x1, xs = [x0, x1] := by
    match xs, hl2 with
    | [x0, x1], _ => exact ⟨x0, x1, rfl⟩
  have q0 := hy 0 f0 rfl
  have q1 := hy 1 f1 rfl
  rw [o0, c0] at q0
  rw [o1, c1] at q1
  rw [ce] at hlen
  obtain ⟨a, ea, _, _⟩ := DataW.trod_int h0 q0
  obtain ⟨ys, m', _, _, _, hl', hz⟩ := DataW.trod_struct h1 q1
  have hl3 : ys.length = 2 := hl'
  obtain ⟨y0, y1, rfl⟩ : ∃ y0 y1, ys = [y0, y1] := by
    match ys, hl3 with
    | [y0, y1], _ => exact ⟨y0, y1, rfl⟩
  have r0 := hz 0 g0 rfl
  have r1 := hz 1 g1 rfl
  rw [p0, d0] at r0
  rw [p1, d1] at r1
  obtain ⟨b, eb, _, _⟩ := DataW.trod_int k0 r0
  obtain ⟨c, ec, _, _⟩ := DataW.trod_int k1 r1
  match cs, hlen with
  | [u, v, w], _ =>
    simp at ea eb ec
    exact ⟨(a, b, c), by rw [ea, eb, ec]; rfl⟩
end Go.Proofs.YtojdaifnljghkabGreatDoor.OpenC
