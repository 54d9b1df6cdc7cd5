/-
  Plain laws for a loop over a function whose body calls what writes an object's own blocks: what the iterator reads stays, what the loop itself laid stays.
-/
import Derived.Test.YtjkcplpmhjnahaaGreatDoorPack1
import Derived.RangeFuncNested
import Derived.RangeFuncBound
import Derived.RangeFuncCalls
import Derived.RangeFuncLeaves
import Derived.RangeFuncBox
import Derived.Shelf.Abstract
import Derived.Shelf.RegionOpen
import Derived.WalkKit
import Derived.OwnWalkIn
import Derived.TacticsInMore
import Derived.LoopNIn
import Derived.LoopIn
namespace Go.Proofs.YtjkcplpmhjnahaaGreatDoor.M
open Go.ChangeShapes Go.WideShapes Go.ChangeAt Go.RowKit Go.Shelf

/-- The blocks K lie as they lay. -/
def KpS (K : Nat → Prop) (W W' : World) : Prop := ∀ k, K k → W'.heap[k]? = W.heap[k]?
theorem kpS_t {K : Nat → Prop} {A B C : World} (h : KpS K A B) (h2 : KpS K B C) : KpS K A C := fun k hk => (h2 k hk).trans (h k hk)
theorem kpS_b {K : Nat → Prop} {n : Nat} (hK : ∀ k, K k → k < n) (W : World) (l : Nat) (o o' : Obj) (hl : n ≤ l) (_ : W.heap[l]? = some o) (_ : o.isCells = false) (_ : o.isWalk = false) : KpS K W (W.putObj l o') :=
  fun k hk => World.putObj_heap_other (by have := hK k hk; omega)
theorem kpS_only {K S : Nat → Prop} {W W' : World} (h : Only S W W') (hK : ∀ k, K k → k < W.heap.size) (hn : ∀ k, K k → ¬ S k) : KpS K W W' := fun k hk => h.2.2.2.2 k (hK k hk) (hn k hk)
/-- What writes blocks below B alone keeps the rest. -/
theorem keepsFrom_only {S : Nat → Prop} {B : Nat} {W W' : World} (h : Only S W W') (hS : ∀ k, S k → k < B) : KeepsFrom B W W' :=
  ⟨h.size, fun k o hB hk _ => (h.2.2.2.2 k (blk_lt hk) (fun hs => by have := hS k hs; omega)).trans hk⟩
theorem only_grown {W W' : World} {row : Option Nat} (hg : W.grownBy W' row) : Only (fun k => row = some k) W W' := (Only.refl _ W).grown hg (fun _ e => Or.inl e)
/-- What is so wherever the blocks T are as they were, all of them below B, abides the loop's own steps. -/
theorem ownFrom_only {β : Type} {B : Nat} {I : β → World → Prop} (T : β → World → Nat → Prop) (hT : ∀ s W, I s W → ∀ k, T s W k → k < B) (hI : ∀ s W W' (S : Nat → Prop), I s W → Only S W W' → (∀ k, T s W k → ¬ S k) → I s W') : OwnFrom B I :=
  fun s W W' row hs hg hr => hI s W W' _ hs (only_grown hg) (fun k hk e => by have h1 := (hr k e).1; have h2 := hT s W hs k hk; omega)
end Go.Proofs.YtjkcplpmhjnahaaGreatDoor.M
