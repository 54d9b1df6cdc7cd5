/-
  Rules in memory: a row of records of an int and a slice of ints; how a slice of rules, and a rule, among the arguments read, opened.
-/
import Derived.Test.YtojdaifnljghkabGreatDoorQOpen
import Derived.Test.YtojdaifnljghkabGreatDoorPack1
namespace Go.Proofs.YtojdaifnljghkabGreatDoor.M
/-- A rule: its register, the slice of what is good, and what lies there. -/
def ruleV (c : Int × Value × List Int) : List Value := [.int .i64 c.1, c.2.1]
def goodIn (w : World) (c : Int × Value × List Int) : Prop := ∃ ad cap, c.2.1 = .slice ad c.2.2.length cap ∧ c.2.2.length ≤ maxLen ∧ (ad = none → cap = 0) ∧ Row w ad c.2.2
def RulesIn (w : World) (a : Option Addr) (l : List (Int × Value × List Int)) : Prop := RRow 2 ruleV w a l ∧ ∀ c ∈ l, goodIn w c
def rulesL (l : List (Int × Value × List Int)) : List (Int × List Int) := l.map fun c => (c.1, c.2.2)
theorem ruleV_len (c : Int × Value × List Int) : (ruleV c).length = 2 := rfl
theorem goodIn.below {w w' : World} {c : Int × Value × List Int} (h : goodIn w c) (hb : Go.RowKit.Below w.heap.size w w') : goodIn w' c := by
  obtain ⟨ad, cap, h1, h2, h3, h4⟩ := h
  exact ⟨ad, cap, h1, h2, h3, h4.below hb⟩
theorem RulesIn.below {w w' : World} {a : Option Addr} {l : List (Int × Value × List Int)} (h : RulesIn w a l) (hb : Go.RowKit.Below w.heap.size w w') : RulesIn w' a l := ⟨h.1.below hb, fun c hc => (h.2 c hc).below hb⟩
theorem RulesIn.nil (w : World) (a : Option Addr) : RulesIn w a [] := ⟨RRow.nil _ _, fun c h => by simp at h⟩
theorem rulesL_len (l : List (Int × Value × List Int)) : (rulesL l).length = l.length := by unfold rulesL; rw [List.length_map]
theorem rulesL_at {l : List (Int × Value × List Int)} {k : Nat} {c : Int × Value × List Int} (h : l[k]? = some c) : (rulesL l)[k]? = some (c.1, c.2.2) := by unfold rulesL; rw [List.getElem?_map, h]; rfl
/-- A rule at its place: its two cells, and what its slice holds. -/
theorem RulesIn.at {w : World} {a : Option Addr} {l : List (Int × Value × List Int)} {k : Nat} {r : Int} {v : Value} {g : List Int} (h : RulesIn w a l) (hx : l[k]? = some (r, v, g)) :
    ∃ b off ad cap, a = some ⟨b, off, none⟩ ∧ v = .slice ad g.length cap ∧ g.length ≤ maxLen ∧ (ad = none → cap = 0) ∧ Row w ad g ∧ w.cell? ⟨b, off + k * 2, none⟩ = some (.int .i64 r) ∧ w.cell? ⟨b, off + k * 2 + 1, none⟩ = some (.slice ad g.length cap) := by
  obtain ⟨b, off, ha, hc⟩ := h.1.at hx
  obtain ⟨ad, cap, h1, h2, h3, h4⟩ := h.2 _ (List.mem_of_getElem? hx)
  simp only [] at h1 h2 h3 h4
  have c0 := hc 0 (.int .i64 r) rfl
  have c1 := hc 1 v rfl
  rw [h1] at c1
  exact ⟨b, off, ad, cap, ha, h1, h2, h3, h4, c0, c1⟩
end Go.Proofs.YtojdaifnljghkabGreatDoor.M
namespace Go.Proofs.YtojdaifnljghkabGreatDoor.OpenR
open Go.ChangeShapes Go.WideShapes Go.ChangeAt Go.RowKit
open Go.Proofs.YtojdaifnljghkabGreatDoor.M

theorem ints_of {H : Type} {enc : TypeId × Value → H} {P : Program} {W : World} {b0 : Nat} {hd : Bool} {t e : TypeId} {fuel : Nat} {cs : List Value} {x : DataW H × List MemPlace}
    (hu : P.underlying t = some (.slice e)) (he : P.underlying e = some (.int .i64)) (hce : P.cellsOf e = 1) (h : DataW.trod enc P W b0 (fun _ => true) hd fuel t cs = some x) :
    ∃ (a : Option Addr) (cap : Nat) (g : List Int), cs = [.slice a g.length cap] ∧ g.length ≤ maxLen ∧ (a = none → cap = 0) ∧ Row W a g := by
  rcases DataW.trod_slice hu h with ⟨rfl, _⟩ | ⟨a, l, c, _, _, _, _, rfl, _⟩
  · exact ⟨none, 0, [], rfl, by unfold maxLen; simp, fun _ => rfl, Or.inl rfl⟩
  · have hT : DataW.Trod enc P W b0 (fun _ => true) hd t (.slice (some a) l c) x.1 x.2 := ⟨fuel, h⟩
    obtain ⟨xs, h1, h2, h3, h4⟩ := Open.ints hu he hce hT
    exact ⟨some a, c, xs, by rw [h1], by omega, h3, h4⟩
theorem read {H : Type} {enc : TypeId × Value → H} {P : Program} {W : World} {b0 : Nat} {hd : Bool} {e g : TypeId} {f0 f1 : Field}
    (hu : P.underlying e = some (.struct #[f0, f1])) (h0 : P.underlying f0.type = some (.int .i64)) (h1 : P.underlying f1.type = some (.slice g)) (hg : P.underlying g = some (.int .i64))
    (o0 : f0.offset = 0) (o1 : f1.offset = 1) (c0 : P.cellsOf f0.type = 1) (c1 : P.cellsOf f1.type = 1) (cg : P.cellsOf g = 1) (ce : P.cellsOf e = 2)
    (fuel : Nat) (cs : List Value) (x : DataW H × List MemPlace) (h : DataW.trod enc P W b0 (fun _ => true) hd fuel e cs = some x) : ∃ r : Int × Value × List Int, cs = ruleV r ∧ goodIn W r := by
  obtain ⟨xs, m, _, _, hlen, hl, hy⟩ := DataW.trod_struct hu h
  have hl2 : xs.length = 2 := hl
  obtain ⟨x0, x1, rfl⟩ : ∃ x0 x1, xs = [x0, x1] := by
    match xs, hl2 with
    | [x0, x1], _ => exact ⟨x0, x1, rfl⟩
  have q0 := hy 0 f0 rfl
  have q1 := hy 1 f1 rfl
  rw [o0, c0] at q0
  rw [o1, c1] at q1
  rw [ce] at hlen
  obtain ⟨a, ea, _, _⟩ := DataW.trod_int h0 q0
  obtain ⟨ad, cap, g, eg, g1, g2, g3⟩ := ints_of h1 hg cg q1
  match cs, hlen with
  | [u, v], _ =>
    simp at ea eg
    exact ⟨(a, .slice ad g.length cap, g), by rw [ea, eg]; rfl, ad, cap, rfl, g1, g2, g3⟩
theorem rule {H : Type} {enc : TypeId × Value → H} {P : Program} {W : World} {b0 base : Nat} {hd : Bool} {e g : TypeId} {f0 f1 : Field} {v : Value} {d : DataW H} {ps : List MemPlace}
    (hu : P.underlying e = some (.struct #[f0, f1])) (h0 : P.underlying f0.type = some (.int .i64)) (h1 : P.underlying f1.type = some (.slice g)) (hg : P.underlying g = some (.int .i64))
    (o0 : f0.offset = 0) (o1 : f1.offset = 1) (c0 : P.cellsOf f0.type = 1) (c1 : P.cellsOf f1.type = 1) (cg : P.cellsOf g = 1) (ce : P.cellsOf e = 2)
    (hv : Value.okWide P W .any base e v) (h : DataW.Trod enc P W b0 (fun _ => true) hd e v d ps) :
    ∃ (r : Int) (a : Option Addr) (cap : Nat) (gs : List Int), v = .agg #[.int .i64 r, .slice a gs.length cap] ∧ gs.length ≤ maxLen ∧ (a = none → cap = 0) ∧ Row W a gs := by
  obtain ⟨cs, rfl, _, _⟩ : ∃ cs, v = .agg cs ∧ cs.size = P.cellsOf e ∧ Row.okWide P W .any base e cs := by
    simpa [Value.okWide, hu] using hv
  obtain ⟨fuel, hf⟩ := h
  obtain ⟨⟨r, u, gs⟩, e1, ad, cap, e2, e3, e4, e5⟩ := read hu h0 h1 hg o0 o1 c0 c1 cg ce fuel _ _ hf
  simp only [] at e2 e3 e4 e5
  subst e2
  refine ⟨r, ad, cap, gs, ?_, e3, e4, e5⟩
  congr 1
  apply Array.ext'
  exact e1
end Go.Proofs.YtojdaifnljghkabGreatDoor.OpenR
