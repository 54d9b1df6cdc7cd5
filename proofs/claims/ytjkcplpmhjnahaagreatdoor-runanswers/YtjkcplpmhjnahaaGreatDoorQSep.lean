/-
  Plain laws, over any program, on things that lie apart in memory: each has its blocks, stays as it is while only others' blocks change, and one at a time may take a step.
-/
import Derived.Test.YtjkcplpmhjnahaaGreatDoorPack1
namespace Go.Proofs.YtjkcplpmhjnahaaGreatDoor.M
open Go.RowKit Go.ChangeShapes Go.WideShapes Go.ChangeAt

/-- A thing in memory: its blocks, from B on, and what is so of it. -/
structure Thing (B : Nat) where
  F : Nat → Prop
  P : World → Prop
  has : ∀ {W : World}, P W → ∀ b, F b → B ≤ b ∧ b < W.heap.size
  st : ∀ {W W' : World} {T : Nat → Prop}, P W → Only T W W' → (∀ b, F b → ¬ T b) → P W'
/-- Some things that lie apart, above what was there. -/
structure Sep (w0 : World) (B : Nat) (its : List (Thing B)) (W : World) : Prop where
  ok : ∀ it ∈ its, it.P W
  ap : its.Pairwise (fun a b => ∀ k, a.F k → ¬ b.F k)
  lo : Below B w0 W
  hb : B ≤ W.heap.size
section
variable {w0 W W' : World} {B : Nat} {its r : List (Thing B)} {i i' a b c d : Thing B}
theorem Sep.nil (h : Below B w0 W) (hb : B ≤ W.heap.size) : Sep w0 B [] W := ⟨fun it h => (by cases h), List.Pairwise.nil, h, hb⟩
theorem Sep.below (h : Sep w0 B its W) (hb : Below W.heap.size W W') : Sep w0 B its W' :=
  ⟨fun it hi => it.st (h.ok it hi) (Only.of_below (S := fun _ => False) hb) (fun _ _ hf => hf), h.ap, h.lo.trans (hb.mono h.hb), Nat.le_trans h.hb hb.size⟩
theorem Sep.drew (h : Sep w0 B its W) : Sep w0 B its W.drew := h.below (Below.drew (Below.refl _ _))
theorem Sep.perm (h : Sep w0 B its W) (hp : its.Perm r) : Sep w0 B r W :=
  ⟨fun it hi => h.ok it (hp.mem_iff.2 hi), (hp.pairwise_iff (fun hxy k hk hx => hxy k hx hk)).1 h.ap, h.lo, h.hb⟩
theorem Sep.step (h : Sep w0 B (i :: r) W) (hn : i'.P W') (ho : Only i.F W W') (hf : ∀ k, i'.F k → i.F k ∨ W.heap.size ≤ k) : Sep w0 B (i' :: r) W' := by
  obtain ⟨h1, h2⟩ := List.pairwise_cons.1 h.ap
  refine ⟨fun it hi => ?_, List.pairwise_cons.2 ⟨fun it hi k hk hit => ?_, h2⟩, h.lo.trans (ho.below h.hb (fun k hk => (i.has (h.ok i (List.mem_cons_self ..)) k hk).1)), Nat.le_trans h.hb ho.size⟩
  · rcases List.mem_cons.1 hi with rfl | hi
    · exact hn
    · exact it.st (h.ok it (List.mem_cons_of_mem _ hi)) ho (fun k hk hs => h1 it hi k hs hk)
  · rcases hf k hk with h3 | h3
    · exact h1 it hi k h3 hit
    · have := (it.has (h.ok it (List.mem_cons_of_mem _ hi)) k hit).2; omega
theorem Sep.step1 (h : Sep w0 B (a :: i :: r) W) (hn : i'.P W') (ho : Only i.F W W') (hf : ∀ k, i'.F k → i.F k ∨ W.heap.size ≤ k) : Sep w0 B (a :: i' :: r) W' :=
  ((h.perm (List.Perm.swap i a r)).step hn ho hf).perm (List.Perm.swap a i' r)
theorem Sep.step2 (h : Sep w0 B (a :: b :: i :: r) W) (hn : i'.P W') (ho : Only i.F W W') (hf : ∀ k, i'.F k → i.F k ∨ W.heap.size ≤ k) : Sep w0 B (a :: b :: i' :: r) W' :=
  ((h.perm ((List.Perm.swap i b r).cons a)).step1 hn ho hf).perm ((List.Perm.swap b i' r).cons a)
theorem Sep.step3 (h : Sep w0 B (a :: b :: c :: i :: r) W) (hn : i'.P W') (ho : Only i.F W W') (hf : ∀ k, i'.F k → i.F k ∨ W.heap.size ≤ k) : Sep w0 B (a :: b :: c :: i' :: r) W' :=
  ((h.perm (((List.Perm.swap i c r).cons b).cons a)).step2 hn ho hf).perm (((List.Perm.swap c i' r).cons b).cons a)
/-- One more, all of new blocks. -/
theorem Sep.add (h : Sep w0 B its W) (hb : Below W.heap.size W W') (hn : i.P W') (hf : ∀ k, i.F k → W.heap.size ≤ k) : Sep w0 B (i :: its) W' := by
  have h1 := h.below hb
  refine ⟨fun it hi => ?_, List.pairwise_cons.2 ⟨fun it hi k hk hit => ?_, h1.ap⟩, h1.lo, h1.hb⟩
  · rcases List.mem_cons.1 hi with rfl | hi
    · exact hn
    · exact h1.ok it hi
  · have := hf k hk
    have := (it.has (h.ok it hi) k hit).2
    omega
theorem Sep.tail (h : Sep w0 B (i :: r) W) : Sep w0 B r W := ⟨fun it hi => h.ok it (List.mem_cons_of_mem _ hi), (List.pairwise_cons.1 h.ap).2, h.lo, h.hb⟩
theorem Sep.p0 (h : Sep w0 B (a :: r) W) : a.P W := h.ok a (by simp)
theorem Sep.p1 (h : Sep w0 B (a :: b :: r) W) : b.P W := h.ok b (by simp)
theorem Sep.p2 (h : Sep w0 B (a :: b :: c :: r) W) : c.P W := h.ok c (by simp)
theorem Sep.p3 (h : Sep w0 B (a :: b :: c :: d :: r) W) : d.P W := h.ok d (by simp)
/-- A block as a thing. -/
def blkI (B b : Nat) (hB : B ≤ b) (o : Obj) : Thing B where
  F := fun k => k = b
  P := fun W => W.heap[b]? = some o
  has := fun h k hk => ⟨by rw [hk]; exact hB, by rw [hk]; exact blk_lt h⟩
  st := fun h ho hn => ho.heap h (hn b rfl)
theorem Sep.alloc (h : Sep w0 B its W) (o : Obj) : Sep w0 B (blkI B W.heap.size h.hb o :: its) (W.alloc o) :=
  h.add (below_new W o) (blk_new W o) (fun k hk => by rw [show k = W.heap.size from hk]; exact Nat.le_refl _)
theorem Sep.allocz (h : Sep w0 B its W) (hz : B ≤ W.heap.size) (o : Obj) : Sep w0 B (blkI B W.heap.size hz o :: its) (W.alloc o) := h.alloc o
end
end Go.Proofs.YtjkcplpmhjnahaaGreatDoor.M
