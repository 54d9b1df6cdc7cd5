/-
  Plain facts on blocks of memory, over any program: what a block held it holds, and a row of three ints laid in a block of its own.
-/
import Derived.Test.YtdbpeikijonjmaaDoorInts
import Derived.Laws.Rows
import Derived.Below
namespace Go.Proofs.YtdbpeikijonjmaaDoor.M
open Go.RowKit

theorem blk_lt {w : World} {b : Nat} {o : Obj} (h : w.heap[b]? = some o) : b < w.heap.size := (Array.getElem?_eq_some_iff.1 h).1
theorem blk_below {w w' : World} {b : Nat} {o : Obj} (h : w.heap[b]? = some o) (hb : Below w.heap.size w w') : w'.heap[b]? = some o := (hb.block b (blk_lt h)).trans h
theorem blk_keep {w : World} {b : Nat} {o : Obj} (h : w.heap[b]? = some o) (o' : Obj) : (w.alloc o').heap[b]? = some o := (Go.RowKit.Below.heap_alloc w o' b (blk_lt h)).trans h
theorem blk_new (w : World) (o : Obj) : (w.alloc o).heap[w.heap.size]? = some o := by
  show (w.heap.push o)[w.heap.size]? = some o
  exact Array.getElem?_push_size
theorem below_new (w : World) (o : Obj) : Below w.heap.size w (w.alloc o) := (Below.refl _ w).alloc (Nat.le_refl _) o
theorem below_on {w w1 w2 : World} (h : Below w.heap.size w w1) (h2 : Below w1.heap.size w1 w2) : Below w.heap.size w w2 := h.trans (h2.mono h.size)
theorem Row.three {w : World} {b : Nat} {p q m : Int} {t : TypeId} {fr : Nat × Nat} (h : w.heap[b]? = some (.cells #[.int .i64 p, .int .i64 q, .int .i64 m] t fr)) : Row w (some ⟨b, 0, none⟩) [p, q, m] := by
  refine Or.inr ⟨b, 0, rfl, fun k x hx => ?_⟩
  have hc : ∀ j, w.cell? ⟨b, j, none⟩ = (#[Value.int .i64 p, .int .i64 q, .int .i64 m])[j]? := fun j => by rw [cell_of_row w b _ _ t fr h]
  rw [Nat.zero_add, hc]
  match k with
  | 0 => simp at hx; subst hx; rfl
  | 1 => simp at hx; subst hx; rfl
  | 2 => simp at hx; subst hx; rfl
  | k + 3 => simp at hx
/-- The cells of a seal, laid in a block of its own. -/
def sealC (p a : Int) : Array Value := #[.int .i64 p, .int .i64 a]
theorem seal_cells {w : World} {b : Nat} {p a : Int} {t : TypeId} {fr : Nat × Nat} (h : w.heap[b]? = some (.cells #[.int .i64 p, .int .i64 a] t fr)) :
    w.cell? ⟨b, 0, none⟩ = some (.int .i64 p) ∧ w.cell? ⟨b, 1, none⟩ = some (.int .i64 a) := by
  refine ⟨?_, ?_⟩ <;> rw [cell_of_row w b _ _ t fr h] <;> rfl
theorem seal_free {w : World} {b : Nat} {c : Array Value} {t : TypeId} (h : w.heap[b]? = some (.cells c t)) :
    w.frozen? ⟨b, 0, none⟩ = false ∧ w.frozen? ⟨b, 1, none⟩ = false := ⟨frozen_of_row w b 0 _ _ h, frozen_of_row w b 1 _ _ h⟩
theorem two_set {w : World} {b : Nat} {a0 a1 x y : Value} {t : TypeId} {fr : Nat × Nat} (hg : w.heap[b]? = some (.cells #[a0, a1] t fr)) :
    (w.setCell ⟨b, 0, none⟩ x).setCell ⟨b, 1, none⟩ y = w.setRow b #[x, y] := by
  rw [setCell_eq_setRow w b 0 _ _ _ x hg]
  have h1 := setRow_heap w b _ (#[a0, a1].setIfInBounds 0 x) t fr hg
  rw [setCell_eq_setRow _ b 1 _ _ _ y h1, setRow_setRow]
  rfl
end Go.Proofs.YtdbpeikijonjmaaDoor.M
