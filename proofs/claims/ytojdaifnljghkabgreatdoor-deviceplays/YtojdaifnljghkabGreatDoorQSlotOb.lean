/-
  The program's slots in memory beside blocks that a law keeps, and beside the reference's: what each step leaves as it was.
-/
import Derived.Test.YtojdaifnljghkabGreatDoorPack1
namespace Go.Proofs.YtojdaifnljghkabGreatDoor.Slot
open Go.ChangeShapes Go.WideShapes Go.ChangeAt Go.RowKit
open Go.Proofs.YtojdaifnljghkabGreatDoor.M
set_option linter.unusedVariables false

/-- Some blocks are as they were told. -/
def Kp (w0 : World) (B : Nat) (ks : List (Nat × Obj)) (W : World) : Prop := Below B w0 W ∧ ∀ x ∈ ks, W.heap[x.1]? = some x.2
theorem Kp.drew {w0 W : World} {B : Nat} {ks : List (Nat × Obj)} (h : Kp w0 B ks W) : Kp w0 B ks W.drew := ⟨Below.drew h.1, h.2⟩
/-- The object, and blocks beside it. -/
structure Ob (Slt : World → Nat → Value → (Nat → Prop) → St → Prop) (w0 : World) (B : Nat) (p : Value) (S : Nat → Prop) (t : St) (ks : List (Nat × Obj)) (W : World) : Prop where
  n : Slt W B p S t
  ks : ∀ x ∈ ks, W.heap[x.1]? = some x.2 ∧ ¬ S x.1
  lo : Below B w0 W
  hb : B ≤ W.heap.size
section
variable {Slt : World → Nat → Value → (Nat → Prop) → St → Prop} {w0 W W' : World} {B : Nat} {p : Value} {S S' : Nat → Prop} {t t' : St} {ks : List (Nat × Obj)}
theorem Ob.kp (h : Ob Slt w0 B p S t ks W) : Kp w0 B ks W := ⟨h.lo, fun x hx => (h.ks x hx).1⟩
theorem Ob.below (L : Laws Slt) (h : Ob Slt w0 B p S t ks W) (hb : Below W.heap.size W W') : Ob Slt w0 B p S t ks W' :=
  ⟨L.below h.n hb, fun x hx => ⟨blk_below (h.ks x hx).1 hb, (h.ks x hx).2⟩, h.lo.trans (hb.mono h.hb), Nat.le_trans h.hb hb.size⟩
theorem Ob.drew (L : Laws Slt) (h : Ob Slt w0 B p S t ks W) : Ob Slt w0 B p S t ks W.drew := h.below L (Below.drew (Below.refl _ _))
theorem Ob.step (L : Laws Slt) (h : Ob Slt w0 B p S t ks W) (hn : Slt W' B p S' t') (ho : Only S W W') (hf : ∀ b, S' b → S b ∨ W.heap.size ≤ b) : Ob Slt w0 B p S' t' ks W' := by
  refine ⟨hn, fun x hx => ⟨ho.heap (h.ks x hx).1 (h.ks x hx).2, fun hs => ?_⟩, h.lo.trans (ho.below h.hb (fun k hk => (L.has h.n k hk).1)), Nat.le_trans h.hb ho.size⟩
  rcases hf _ hs with h1 | h1
  · exact (h.ks x hx).2 h1
  · have := blk_lt (h.ks x hx).1; omega
theorem Ob.alloc (L : Laws Slt) (h : Ob Slt w0 B p S t ks W) (o : Obj) : Ob Slt w0 B p S t ((W.heap.size, o) :: ks) (W.alloc o) := by
  have h1 := h.below L (below_new W o)
  refine ⟨h1.n, fun x hx => ?_, h1.lo, h1.hb⟩
  rcases List.mem_cons.1 hx with rfl | hx
  · exact ⟨blk_new W o, fun hs => by have := (L.has h.n _ hs).2; simp at this⟩
  · exact h1.ks x hx
theorem Ob.less (h : Ob Slt w0 B p S t ks W) {ks' : List (Nat × Obj)} (hk : ∀ x ∈ ks', x ∈ ks) : Ob Slt w0 B p S t ks' W := ⟨h.n, fun x hx => h.ks x (hk x hx), h.lo, h.hb⟩
end
theorem eight {w : World} {b : Nat} {x0 x1 x2 x3 x4 x5 x6 x7 : Value} {t : TypeId} {fr : Nat × Nat} (h : w.heap[b]? = some (.cells #[x0, x1, x2, x3, x4, x5, x6, x7] t fr)) :
    w.cell? ⟨b, 0, none⟩ = some x0 ∧ w.cell? ⟨b, 1, none⟩ = some x1 ∧ w.cell? ⟨b, 2, none⟩ = some x2 ∧ w.cell? ⟨b, 3, none⟩ = some x3 ∧ w.cell? ⟨b, 4, none⟩ = some x4 ∧ w.cell? ⟨b, 5, none⟩ = some x5 ∧ w.cell? ⟨b, 6, none⟩ = some x6 ∧ w.cell? ⟨b, 7, none⟩ = some x7 := by
  refine ⟨?_, ?_, ?_, ?_, ?_, ?_, ?_, ?_⟩ <;> rw [cell_of_row w b _ _ t fr h] <;> rfl
theorem five {w : World} {b : Nat} {x0 x1 x2 x3 x4 : Value} {t : TypeId} {fr : Nat × Nat} (h : w.heap[b]? = some (.cells #[x0, x1, x2, x3, x4] t fr)) :
    w.cell? ⟨b, 0, none⟩ = some x0 ∧ w.cell? ⟨b, 1, none⟩ = some x1 ∧ w.cell? ⟨b, 2, none⟩ = some x2 ∧ w.cell? ⟨b, 3, none⟩ = some x3 ∧ w.cell? ⟨b, 4, none⟩ = some x4 := by
  refine ⟨?_, ?_, ?_, ?_, ?_⟩ <;> rw [cell_of_row w b _ _ t fr h] <;> rfl
end Go.Proofs.YtojdaifnljghkabGreatDoor.Slot
