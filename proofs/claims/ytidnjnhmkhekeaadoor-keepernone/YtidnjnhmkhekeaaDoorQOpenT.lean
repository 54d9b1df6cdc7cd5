/-
  How a struct of three ints, and one of three ints and a struct of two, among the arguments read, opened: their cells.
-/
import Derived.Test.YtidnjnhmkhekeaaDoorPack1
import Derived.OpenShut
import Derived.ChangeSame
import Derived.ChangeArms
import Derived.RowKit
namespace Go.Proofs.YtidnjnhmkhekeaaDoor.OpenT
open Go.ChangeShapes Go.WideShapes Go.ChangeAt Go.RowKit

theorem trip {H : Type} {enc : TypeId × Value → H} {P : Program} {W : World} {b0 base : Nat} {sp : Nat → Bool} {hd : Bool} {t : TypeId} {f0 f1 f2 : Field} {v : Value} {d : DataW H} {ps : List MemPlace}
    (hu : P.underlying t = some (.struct #[f0, f1, f2])) (h0 : P.underlying f0.type = some (.int .i64)) (h1 : P.underlying f1.type = some (.int .i64)) (h2 : P.underlying f2.type = some (.int .i64))
    (o0 : f0.offset = 0) (o1 : f1.offset = 1) (o2 : f2.offset = 2) (c0 : P.cellsOf f0.type = 1) (c1 : P.cellsOf f1.type = 1) (c2 : P.cellsOf f2.type = 1) (ct : P.cellsOf t = 3)
    (hv : Value.okWide P W .any base t v) (h : DataW.Trod enc P W b0 sp hd t v d ps) :
    ∃ x y z : Int, v = .agg #[.int .i64 x, .int .i64 y, .int .i64 z] := by
  obtain ⟨cs, rfl, hsz, _⟩ : ∃ cs, v = .agg cs ∧ cs.size = P.cellsOf t ∧ Row.okWide P W .any base t cs := by
    simpa [Value.okWide, hu] using hv
  rw [ct] at hsz
  obtain ⟨fuel, hf⟩ := h
  obtain ⟨xs, m, _, hx, _, hl, hy⟩ := DataW.trod_struct hu hf
  have hl2 : xs.length = 3 := hl
  obtain ⟨x0, x1, x2, rfl⟩ : ∃ x0 x1 x2, xs = [x0, x1, x2] := by
    match xs, hl2 with
    | [x0, x1, x2], _ => exact ⟨x0, x1, x2, rfl⟩
  have g0 := hy 0 f0 rfl
  have g1 := hy 1 f1 rfl
  have g2 := hy 2 f2 rfl
  rw [o0, c0] at g0
  rw [o1, c1] at g1
  rw [o2, c2] at g2
  obtain ⟨x, e0, _, _⟩ := DataW.trod_int h0 g0
  obtain ⟨y, e1, _, _⟩ := DataW.trod_int h1 g1
  obtain ⟨z, e2, _, _⟩ := DataW.trod_int h2 g2
  refine ⟨x, y, z, ?_⟩
  congr 1
  apply Array.ext'
  have hcs : (Value.agg cs).cells.toList = cs.toList := rfl
  rw [hcs] at e0 e1 e2
  have hlen : cs.toList.length = 3 := by simpa using hsz
  generalize cs.toList = l at e0 e1 e2 hlen
  match l, hlen with
  | [a, b, c], _ =>
    simp at e0 e1 e2
    rw [e0, e1, e2]
theorem quin {H : Type} {enc : TypeId × Value → H} {P : Program} {W : World} {b0 base : Nat} {sp : Nat → Bool} {hd : Bool} {t : TypeId} {f0 f1 f2 f3 s0 s1 : Field} {v : Value} {d : DataW H} {ps : List MemPlace}
    (hu : P.underlying t = some (.struct #[f0, f1, f2, f3])) (h0 : P.underlying f0.type = some (.int .i64)) (h1 : P.underlying f1.type = some (.int .i64)) (h2 : P.underlying f2.type = some (.int .i64))
    (h3 : P.underlying f3.type = some (.struct #[s0, s1])) (k0 : P.underlying s0.type = some (.int .i64)) (k1 : P.underlying s1.type = some (.int .i64))
    (o0 : f0.offset = 0) (o1 : f1.offset = 1) (o2 : f2.offset = 2) (o3 : f3.offset = 3) (p0 : s0.offset = 0) (p1 : s1.offset = 1)
    (c0 : P.cellsOf f0.type = 1) (c1 : P.cellsOf f1.type = 1) (c2 : P.cellsOf f2.type = 1) (c3 : P.cellsOf f3.type = 2) (d0 : P.cellsOf s0.type = 1) (d1 : P.cellsOf s1.type = 1) (ct : P.cellsOf t = 5)
    (hv : Value.okWide P W .any base t v) (h : DataW.Trod enc P W b0 sp hd t v d ps) :
    ∃ x y z p q : Int, v = .agg #[.int .i64 x, .int .i64 y, .int .i64 z, .int .i64 p, .int .i64 q] := by
  obtain ⟨cs, rfl, hsz, _⟩ : ∃ cs, v = .agg cs ∧ cs.size = P.cellsOf t ∧ Row.okWide P W .any base t cs := by
    simpa [Value.okWide, hu] using hv
  rw [ct] at hsz
  obtain ⟨fuel, hf⟩ := h
  obtain ⟨xs, m, _, hx, _, hl, hy⟩ := DataW.trod_struct hu hf
  have hl2 : xs.length = 4 := hl
  obtain ⟨x0, x1, x2, x3, rfl⟩ : ∃ x0 x1 x2 x3, xs = [x0, x1, x2, x3] := by
    match xs, hl2 with
    | [x0, x1, x2, x3], _ => exact ⟨x0, x1, x2, x3, rfl⟩
  have g0 := hy 0 f0 rfl
  have g1 := hy 1 f1 rfl
  have g2 := hy 2 f2 rfl
  have g3 := hy 3 f3 rfl
  rw [o0, c0] at g0
  rw [o1, c1] at g1
  rw [o2, c2] at g2
  rw [o3, c3] at g3
  obtain ⟨x, e0, _, _⟩ := DataW.trod_int h0 g0
  obtain ⟨y, e1, _, _⟩ := DataW.trod_int h1 g1
  obtain ⟨z, e2, _, _⟩ := DataW.trod_int h2 g2
  obtain ⟨us, m2, _, _, _, hl3, hy3⟩ := DataW.trod_struct h3 g3
  have hl4 : us.length = 2 := hl3
  obtain ⟨u0, u1, rfl⟩ : ∃ u0 u1, us = [u0, u1] := by
    match us, hl4 with
    | [u0, u1], _ => exact ⟨u0, u1, rfl⟩
  have q0 := hy3 0 s0 rfl
  have q1 := hy3 1 s1 rfl
  rw [p0, d0] at q0
  rw [p1, d1] at q1
  obtain ⟨p, e3, _, _⟩ := DataW.trod_int k0 q0
  obtain ⟨q, e4, _, _⟩ := DataW.trod_int k1 q1
  refine ⟨x, y, z, p, q, ?_⟩
  congr 1
  apply Array.ext'
  have hcs : (Value.agg cs).cells.toList = cs.toList := rfl
  rw [hcs] at e0 e1 e2 e3 e4
  have hlen : cs.toList.length = 5 := by simpa using hsz
  generalize cs.toList = l at e0 e1 e2 e3 e4 hlen
  match l, hlen with
  | [a, b, c, d, e], _ =>
    simp at e0 e1 e2 e3 e4
    rw [e0, e1, e2, e3, e4]
end Go.Proofs.YtidnjnhmkhekeaaDoor.OpenT
