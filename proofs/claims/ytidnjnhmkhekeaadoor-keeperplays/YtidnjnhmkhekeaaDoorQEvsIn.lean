/-
  Slices of quotes, and of slices of events, that stand in memory.
-/
import Derived.Test.YtidnjnhmkhekeaaDoorPack1
namespace Go.Proofs.YtidnjnhmkhekeaaDoor.M
open Go.RowKit Go.ChangeShapes Go.WideShapes Go.ChangeAt
set_option linter.unusedVariables false

/-- A quote in its cells. -/
def quoL (q : Int × Int × Int × Int × Int) : List Value := [.int .i64 q.1, .int .i64 q.2.1, .int .i64 q.2.2.1, .int .i64 q.2.2.2.1, .int .i64 q.2.2.2.2]
/-- A slice of events: the value, and what it holds. -/
def evsL (c : Value × List (Int × Int)) : List Value := [c.1]
def evsIn (w : World) (c : Value × List (Int × Int)) : Prop := ∃ ad cap, c.1 = .slice ad c.2.length cap ∧ c.2.length ≤ maxLen ∧ RRow 2 evV w ad c.2
def EvsIn (w : World) (a : Option Addr) (l : List (Value × List (Int × Int))) : Prop := RRow 1 evsL w a l ∧ ∀ c ∈ l, evsIn w c
theorem quo_at {w : World} {a : Option Addr} {l : List (Int × Int × Int × Int × Int)} {k : Nat} {q0 q1 q2 q3 q4 : Int} (h : RRow 5 quoL w a l) (hx : l[k]? = some (q0, q1, q2, q3, q4)) :
    ∃ b off, a = some ⟨b, off, none⟩ ∧ ∀ W, Below w.heap.size w W → (W.cell? ⟨b, off + k * 5, none⟩ = some (.int .i64 q0) ∧ W.cell? ⟨b, off + k * 5 + 1, none⟩ = some (.int .i64 q1) ∧ W.cell? ⟨b, off + k * 5 + 2, none⟩ = some (.int .i64 q2) ∧ W.cell? ⟨b, off + k * 5 + 3, none⟩ = some (.int .i64 q3) ∧ W.cell? ⟨b, off + k * 5 + 4, none⟩ = some (.int .i64 q4)) := by
  obtain ⟨b, off, ha, _⟩ := h.at hx
  refine ⟨b, off, ha, fun W hb => ?_⟩
  obtain ⟨b', off', e, hc⟩ := (h.below hb).at hx
  rw [ha] at e
  cases e
  exact ⟨hc 0 _ rfl, hc 1 _ rfl, hc 2 _ rfl, hc 3 _ rfl, hc 4 _ rfl⟩
theorem evs_at {w : World} {a : Option Addr} {l : List (Value × List (Int × Int))} {k : Nat} {v : Value} {es : List (Int × Int)} (h : EvsIn w a l) (hx : l[k]? = some (v, es)) :
    ∃ b off ad cap, a = some ⟨b, off, none⟩ ∧ v = .slice ad es.length cap ∧ es.length ≤ maxLen ∧ RRow 2 evV w ad es ∧ ∀ W, Below w.heap.size w W → W.cell? ⟨b, off + k, none⟩ = some (.slice ad es.length cap) := by
  obtain ⟨b, off, ha, _⟩ := h.1.at hx
  obtain ⟨ad, cap, h1, h2, h3⟩ := h.2 _ (List.mem_of_getElem? hx)
  simp only [] at h1 h2 h3
  refine ⟨b, off, ad, cap, ha, h1, h2, h3, fun W hb => ?_⟩
  obtain ⟨b', off', e, hc⟩ := (h.1.below hb).at hx
  rw [ha] at e
  cases e
  have := hc 0 v rfl
  rw [h1, Nat.mul_one, Nat.add_zero] at this
  exact this
end Go.Proofs.YtidnjnhmkhekeaaDoor.M
