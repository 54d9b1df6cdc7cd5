/-
  How a slice of images among the arguments reads, opened: rows of three cells, each string no longer than the reach.
-/
import Derived.Test.YtidnjnhmkhekeaaDoorQOpenL
import Derived.Test.YtidnjnhmkhekeaaDoorQImRow
namespace Go.Proofs.YtidnjnhmkhekeaaDoor.OpenM
open Go.ChangeShapes Go.WideShapes Go.ChangeAt Go.RowKit
open Go.Proofs.YtidnjnhmkhekeaaDoor.M
set_option linter.unusedVariables false

theorem read {H : Type} {enc : TypeId × Value → H} {P : Program} {W : World} {b0 : Nat} {sp : Nat → Bool} {hd : Bool} {t : TypeId} {g0 g1 g2 : Field}
    (hu : P.underlying t = some (.struct #[g0, g1, g2])) (h0 : P.underlying g0.type = some .string) (h1 : P.underlying g1.type = some (.int .i64)) (h2 : P.underlying g2.type = some .string)
    (p0 : g0.offset = 0) (p1 : g1.offset = 1) (p2 : g2.offset = 2) (e0 : P.cellsOf g0.type = 1) (e1 : P.cellsOf g1.type = 1) (e2 : P.cellsOf g2.type = 1) (ct : P.cellsOf t = 3)
    (fuel : Nat) (cs : List Value) (x : DataW H × List MemPlace) (h : DataW.trod enc P W b0 sp hd fuel t cs = some x) :
    ∃ m : ByteArray × Int × ByteArray, cs = imL m ∧ x.1 = .agg [.lit (.string m.1.data.toList), .lit (.int .i64 m.2.1), .lit (.string m.2.2.data.toList)] := by
  obtain ⟨ys, m1, _, hyx, hlen, hl3, hz⟩ := DataW.trod_struct hu h
  have hl3' : ys.length = 3 := hl3
  rw [ct] at hlen
  obtain ⟨y0, y1, y2, rfl⟩ : ∃ y0 y1 y2, ys = [y0, y1, y2] := by
    match ys, hl3' with
    | [y0, y1, y2], _ => exact ⟨y0, y1, y2, rfl⟩
  have r0 := hz 0 g0 rfl
  have r1 := hz 1 g1 rfl
  have r2 := hz 2 g2 rfl
  rw [p0, e0] at r0
  rw [p1, e1] at r1
  rw [p2, e2] at r2
  obtain ⟨nm, n0, rfl, _⟩ := DataW.trod_string h0 r0
  obtain ⟨z, n1, rfl, _⟩ := DataW.trod_int h1 r1
  obtain ⟨cd, n2, rfl, _⟩ := DataW.trod_string h2 r2
  refine ⟨(nm, z, cd), ?_, ?_⟩
  · match cs, hlen with
    | [u0, u1, u2], _ =>
      simp at n0 n1 n2
      rw [n0, n1, n2]
      rfl
  · have := congrArg (fun q => q.1) hyx
    simpa using this
theorem images {H : Type} {enc : TypeId × Value → H} {P : Program} {W : World} {b0 : Nat} {sp : Nat → Bool} {hd : Bool} {t e : TypeId} {a : Option Addr} {len cap : Nat} {d : DataW H} {ps : List MemPlace} {ts : List TypeId} {ds : List (DataW H)} {j : Nat} {fs : Array Field} {u0 u1 u2 : TypeId}
    (hu : P.underlying t = some (.slice e)) (hce : P.cellsOf e = 3) (hel : ∀ (fuel : Nat) (cs : List Value) (x : DataW H × List MemPlace), DataW.trod enc P W b0 sp hd fuel e cs = some x → ∃ m : ByteArray × Int × ByteArray, cs = imL m ∧ x.1 = .agg [.lit (.string m.1.data.toList), .lit (.int .i64 m.2.1), .lit (.string m.2.2.data.toList)])
    (hue : P.underlying e = some (.struct fs)) (hfs : fs.toList.map (·.type) = [u0, u1, u2])
    (hsz : (DataW.weightsEach P ts ds).all (· ≤ reachBytes) = true) (ht : ts[j]? = some t) (hdj : ds[j]? = some d) (h : DataW.Trod enc P W b0 sp hd t (.slice a len cap) d ps) :
    ∃ xs : List (ByteArray × Int × ByteArray), len = xs.length ∧ len ≤ maxLen ∧ (a = none → cap = 0) ∧ RRow 3 imL W a xs ∧ ∀ m ∈ xs, szI m := by
  obtain ⟨xs, h1, h2, h3, h4, h5⟩ := OpenL.recsW (α := ByteArray × Int × ByteArray) (Q := fun m y => y = .agg [.lit (.string m.1.data.toList), .lit (.int .i64 m.2.1), .lit (.string m.2.2.data.toList)]) (cv := imL) hu hce (by omega) hel h
  refine ⟨xs, h1, h2, h3, h4, fun m hs => ?_⟩
  obtain ⟨y, rfl, hw⟩ := h5 m hs
  have hwt : DataW.weights (H := H) P e (.agg [.lit (.string m.1.data.toList), .lit (.int .i64 m.2.1), .lit (.string m.2.2.data.toList)]) = [m.1.data.toList.length, m.2.2.data.toList.length] := by
    simp [DataW.weights, hue, hfs, DataW.weightsEach]
  rw [hwt] at hw
  have k1 := OpenL.reach hsz ht hdj _ (hw m.1.data.toList.length (by simp))
  have k2 := OpenL.reach hsz ht hdj _ (hw m.2.2.data.toList.length (by simp))
  exact ⟨by simpa using k1, by simpa using k2⟩
end Go.Proofs.YtidnjnhmkhekeaaDoor.OpenM
