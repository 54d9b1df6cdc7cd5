/-
  How a slice of quotes, and a slice of slices of events, among the arguments read, opened.
-/
import Derived.Test.YtidnjnhmkhekeaaDoorQEvsIn
import Derived.Test.YtidnjnhmkhekeaaDoorQOpenE
namespace Go.Proofs.YtidnjnhmkhekeaaDoor.OpenQ
open Go.ChangeShapes Go.WideShapes Go.ChangeAt Go.RowKit
open Go.Proofs.YtidnjnhmkhekeaaDoor.M
set_option linter.unusedVariables false

theorem read {H : Type} {enc : TypeId × Value → H} {P : Program} {W : World} {b0 : Nat} {sp : Nat → Bool} {hd : Bool} {t : TypeId} {f0 f1 f2 f3 s0 s1 : Field}
    (hu : P.underlying t = some (.struct #[f0, f1, f2, f3])) (h0 : P.underlying f0.type = some (.int .i64)) (h1 : P.underlying f1.type = some (.int .i64)) (h2 : P.underlying f2.type = some (.int .i64))
    (h3 : P.underlying f3.type = some (.struct #[s0, s1])) (k0 : P.underlying s0.type = some (.int .i64)) (k1 : P.underlying s1.type = some (.int .i64))
    (o0 : f0.offset = 0) (o1 : f1.offset = 1) (o2 : f2.offset = 2) (o3 : f3.offset = 3) (p0 : s0.offset = 0) (p1 : s1.offset = 1)
    (c0 : P.cellsOf f0.type = 1) (c1 : P.cellsOf f1.type = 1) (c2 : P.cellsOf f2.type = 1) (c3 : P.cellsOf f3.type = 2) (d0 : P.cellsOf s0.type = 1) (d1 : P.cellsOf s1.type = 1) (ct : P.cellsOf t = 5)
    (fuel : Nat) (cs : List Value) (x : DataW H × List MemPlace) (h : DataW.trod enc P W b0 sp hd fuel t cs = some x) : ∃ r : Int × Int × Int × Int × Int, cs = quoL r := by
  obtain ⟨xs, m, _, hx, hlen, hl, hy⟩ := DataW.trod_struct hu h
  have hl2 : xs.length = 4 := hl
  obtain ⟨x0, x1, x2, x3, rfl⟩ : ∃ x0 x1 x2 x3, xs = [x0, x1, x2, x3] := by
    match xs, hl2 with
    | [x0, x1, x2, x3], _ => exact ⟨x0, x1, x2, x3, rfl⟩
  have g0 := hy 0 f0 rfl
  have g1 := hy 1 f1 rfl
  have g2 := hy 2 f2 rfl
  have g3 := hy 3 f3 rfl
  rw [o0, c0] at g0
  rw [o1, c1] at g1
  rw [o2, c2] at g2
  rw [o3, c3] at g3
  rw [ct] at hlen
  obtain ⟨x, e0, _, _⟩ := DataW.trod_int h0 g0
  obtain ⟨y, e1, _, _⟩ := DataW.trod_int h1 g1
  obtain ⟨z, e2, _, _⟩ := DataW.trod_int h2 g2
  obtain ⟨us, m2, _, _, _, hl3, hy3⟩ := DataW.trod_struct h3 g3
  have hl4 : us.length = 2 := hl3
  obtain ⟨u0, u1, rfl⟩ : ∃ u0 u1, us = [u0, u1] := by
    match us, hl4 with
    | [u0, u1], _ => exact ⟨u0, u1, rfl⟩
  have q0 := hy3 0 s0 rfl
  have q1 := hy3 1 s1 rfl
  rw [p0, d0] at q0
  rw [p1, d1] at q1
  obtain ⟨p, e3, _, _⟩ := DataW.trod_int k0 q0
  obtain ⟨q, e4, _, _⟩ := DataW.trod_int k1 q1
  match cs, hlen with
  | [a, b, c, d, e], _ =>
    simp at e0 e1 e2 e3 e4
    exact ⟨(x, y, z, p, q), by rw [e0, e1, e2, e3, e4]; rfl⟩
theorem readE {H : Type} {enc : TypeId × Value → H} {P : Program} {W : World} {b0 : Nat} {hd : Bool} {t e : TypeId} {f0 f1 : Field}
    (ht : P.underlying t = some (.slice e)) (hu : P.underlying e = some (.struct #[f0, f1])) (h0 : P.underlying f0.type = some (.int .i64)) (h1 : P.underlying f1.type = some (.int .i64))
    (o0 : f0.offset = 0) (o1 : f1.offset = 1) (c0 : P.cellsOf f0.type = 1) (c1 : P.cellsOf f1.type = 1) (ce : P.cellsOf e = 2)
    (fuel : Nat) (cs : List Value) (x : DataW H × List MemPlace) (h : DataW.trod enc P W b0 (fun _ => true) hd fuel t cs = some x) : ∃ r : Value × List (Int × Int), cs = evsL r ∧ evsIn W r := by
  rcases DataW.trod_slice ht h with ⟨rfl, _⟩ | ⟨a, l, c, _, _, _, _, rfl, _⟩
  · exact ⟨(.slice none 0 0, []), rfl, none, 0, rfl, by unfold maxLen; simp, RRow.nil _ _⟩
  · have hT : DataW.Trod enc P W b0 (fun _ => true) hd t (.slice (some a) l c) x.1 x.2 := ⟨fuel, h⟩
    obtain ⟨xs, h1, h2, h3, h4, h5, h6, h7⟩ := M.open_recs (n := 2) (cv := M.evV) ht ce (by omega) (OpenE.read hu h0 h1 o0 o1 c0 c1 ce) hT
    exact ⟨(.slice (some a) l c, xs), rfl, some a, c, by rw [h1], by rw [← h1]; exact h2, h7⟩
end Go.Proofs.YtidnjnhmkhekeaaDoor.OpenQ
