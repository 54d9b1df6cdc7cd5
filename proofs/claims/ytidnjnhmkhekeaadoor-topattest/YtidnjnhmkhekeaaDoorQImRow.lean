/-
  Slices of images that stand in memory.
-/
import Derived.Test.YtidnjnhmkhekeaaDoorPack1
namespace Go.Proofs.YtidnjnhmkhekeaaDoor.M
open Go.RowKit Go.ChangeShapes Go.WideShapes Go.ChangeAt
set_option linter.unusedVariables false

/-- An image in its cells. -/
def imL (m : ByteArray × Int × ByteArray) : List Value := [.string m.1, .int .i64 m.2.1, .string m.2.2]
def szI (m : ByteArray × Int × ByteArray) : Prop := m.1.size ≤ 140737488351232 ∧ m.2.2.size ≤ 140737488351232
theorem im_at {w : World} {a : Option Addr} {l : List (ByteArray × Int × ByteArray)} {k : Nat} {nm cd : ByteArray} {z : Int} (h : RRow 3 imL w a l) (hx : l[k]? = some (nm, z, cd)) :
    ∃ b off, a = some ⟨b, off, none⟩ ∧ ∀ W, Below w.heap.size w W → (W.cell? ⟨b, off + k * 3, none⟩ = some (.string nm) ∧ W.cell? ⟨b, off + k * 3 + 1, none⟩ = some (.int .i64 z) ∧ W.cell? ⟨b, off + k * 3 + 2, none⟩ = some (.string cd)) := by
  obtain ⟨b, off, ha, _⟩ := h.at hx
  refine ⟨b, off, ha, fun W hb => ?_⟩
  obtain ⟨b', off', e, hc⟩ := (h.below hb).at hx
  rw [ha] at e
  cases e
  exact ⟨hc 0 _ rfl, hc 1 _ rfl, hc 2 _ rfl⟩
end Go.Proofs.YtidnjnhmkhekeaaDoor.M
