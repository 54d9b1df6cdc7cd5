/-
  How an argument reads, opened: a slice of ints is a row of ints in memory; an array of ints is the cells of a list of ints.
-/
import Derived.Test.YtojdaifnljghkabGreatDoorPack1
import Derived.OpenShut
import Derived.ChangeSame
import Derived.RowKit
namespace Go.Proofs.YtojdaifnljghkabGreatDoor.Open
open Go.ChangeShapes Go.WideShapes Go.ChangeAt Go.RowKit
open Go.Proofs.YtojdaifnljghkabGreatDoor.M

theorem ints {H : Type} {enc : TypeId × Value → H} {P : Program} {W : World} {b0 : Nat} {hd : Bool} {t e : TypeId} {a : Option Addr} {len cap : Nat} {d : DataW H} {ps : List MemPlace}
    (hu : P.underlying t = some (.slice e)) (he : P.underlying e = some (.int .i64)) (hce : P.cellsOf e = 1) (h : DataW.Trod enc P W b0 (fun _ => true) hd t (.slice a len cap) d ps) :
    ∃ xs : List Int, len = xs.length ∧ len ≤ maxLen ∧ (a = none → cap = 0) ∧ Row W a xs := by
  obtain ⟨fuel, hf⟩ := h
  rcases open_ints hu he hce hf with ⟨hcs, _⟩ | ⟨x, l, c, zs, hcs, _, hl, hm, hz, _, hcell, _⟩
  · simp [Value.cells] at hcs
    obtain ⟨rfl, rfl, rfl⟩ := hcs
    exact ⟨[], rfl, by unfold maxLen; omega, fun _ => rfl, Or.inl rfl⟩
  · simp [Value.cells] at hcs
    obtain ⟨rfl, rfl, rfl⟩ := hcs
    have hz' : zs.length = cap := by simpa using hz
    refine ⟨zs.take len, by simp; omega, by omega, fun hno => (by cases hno), ?_⟩
    obtain ⟨b, off, spot⟩ := x
    by_cases h0 : len = 0
    · left; simp [h0]
    · have hc := hcell 0 (by omega)
      have hspot : spot = none := by simpa [Addr.add] using World.cell?_spot hc
      subst hspot
      refine Or.inr ⟨b, off, rfl, fun k x hx => ?_⟩
      rw [List.getElem?_take] at hx
      split at hx
      · have hk := (List.getElem?_eq_some_iff.1 hx).1
        have hc := hcell k hk
        rw [add_none] at hc
        rw [hc, List.getD_eq_getElem?_getD, hx]
        rfl
      · cases hx

theorem array {H : Type} {enc : TypeId × Value → H} {P : Program} {W : World} {b0 base : Nat} {sp : Nat → Bool} {hd : Bool} {t e : TypeId} {n : Nat} {v : Value} {d : DataW H} {ps : List MemPlace}
    (hu : P.underlying t = some (.array n e)) (he : P.underlying e = some (.int .i64)) (hce : P.cellsOf e = 1) (hct : P.cellsOf t = n) (hv : Value.okWide P W .any base t v) (h : DataW.Trod enc P W b0 sp hd t v d ps) :
    ∃ xs : List Int, v = .agg (bankC xs) ∧ xs.length = n := by
  obtain ⟨cs, rfl, hsz, _⟩ : ∃ cs, v = .agg cs ∧ cs.size = P.cellsOf t ∧ Row.okWide P W .any base t cs := by
    simpa [Value.okWide, hu] using hv
  rw [hct] at hsz
  obtain ⟨fuel, hf⟩ := h
  obtain ⟨ys, m, _, _, _, hl, hy⟩ := DataW.trod_array hu hf
  have hat : ∀ i, i < n → ∃ z : Int, cs[i]? = some (.int .i64 z) := by
    intro i hi
    have h1 := hy i hi
    rw [hce, Nat.mul_one, List.getElem?_eq_getElem (by omega)] at h1
    obtain ⟨z, e1, _, _⟩ := DataW.trod_int he h1
    refine ⟨z, ?_⟩
    have e2 : (Value.agg cs).cells.toList[i]? = some (.int .i64 z) := by
      have := congrArg (fun l => l[0]?) e1
      simpa using this
    simpa [Value.cells] using e2
  refine ⟨cs.toList.map fun v => match v with | .int _ z => z | _ => 0, ?_, by simp [hsz]⟩
  congr 1
  unfold bankC
  apply Array.ext'
  apply List.ext_getElem?
  intro i
  by_cases hi : i < n
  · obtain ⟨z, hz⟩ := hat i hi
    simp [hz]
  · rw [List.getElem?_eq_none (by simp; omega), List.getElem?_eq_none (by simp; omega)]
end Go.Proofs.YtojdaifnljghkabGreatDoor.Open
