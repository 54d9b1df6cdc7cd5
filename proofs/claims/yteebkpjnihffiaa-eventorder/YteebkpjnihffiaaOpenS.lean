/-
  How a struct of two ints among the arguments reads, opened: its two cells.
-/
import Derived.Test.YteebkpjnihffiaaInts
import Derived.OpenShut
import Derived.ChangeSame
import Derived.ChangeArms
import Derived.RowKit
namespace Go.Proofs.Yteebkpjnihffiaa.OpenS
open Go.ChangeShapes Go.WideShapes Go.ChangeAt Go.RowKit

theorem pair {H : Type} {enc : TypeId × Value → H} {P : Program} {W : World} {b0 base : Nat} {sp : Nat → Bool} {hd : Bool} {t : TypeId} {f0 f1 : Field} {v : Value} {d : DataW H} {ps : List MemPlace}
    (hu : P.underlying t = some (.struct #[f0, f1])) (h0 : P.underlying f0.type = some (.int .i64)) (h1 : P.underlying f1.type = some (.int .i64))
    (o0 : f0.offset = 0) (o1 : f1.offset = 1) (c0 : P.cellsOf f0.type = 1) (c1 : P.cellsOf f1.type = 1) (ct : P.cellsOf t = 2)
    (hv : Value.okWide P W .any base t v) (h : DataW.Trod enc P W b0 sp hd t v d ps) :
    ∃ x y : Int, v = .agg #[.int .i64 x, .int .i64 y] ∧ d = .agg [.lit (.int .i64 x), .lit (.int .i64 y)] ∧ (Lit.int .i64 x).wf = true ∧ (Lit.int .i64 y).wf = true := by
  obtain ⟨cs, rfl, hsz, _⟩ : ∃ cs, v = .agg cs ∧ cs.size = P.cellsOf t ∧ Row.okWide P W .any base t cs := by
    simpa [Value.okWide, hu] using hv
  rw [ct] at hsz
  obtain ⟨fuel, hf⟩ := h
  obtain ⟨xs, m, _, hx, _, hl, hy⟩ := DataW.trod_struct hu hf
  have hl2 : xs.length = 2 := hl
  obtain ⟨x0, x1, rfl⟩ : ∃ x0 x1, xs = [x0, x1] := by
    match xs, hl2 with
    | [x0, x1], _ => exact ⟨x0, x1, rfl⟩
  have g0 := hy 0 f0 rfl
  have g1 := hy 1 f1 rfl
  rw [o0, c0] at g0
  rw [o1, c1] at g1
  obtain ⟨x, e0, rfl, w0⟩ := DataW.trod_int h0 g0
  obtain ⟨y, e1, rfl, w1⟩ := DataW.trod_int h1 g1
  refine ⟨x, y, ?_, ?_, w0, w1⟩
  · congr 1
    apply Array.ext'
    have hcs : (Value.agg cs).cells.toList = cs.toList := rfl
    rw [hcs] at e0 e1
    have hlen : cs.toList.length = 2 := by simpa using hsz
    generalize cs.toList = l at e0 e1 hlen
    match l, hlen with
    | [a, b], _ =>
      simp at e0 e1
      rw [e0, e1]
  · have := congrArg (fun q => q.1) hx
    simpa using this
end Go.Proofs.Yteebkpjnihffiaa.OpenS
