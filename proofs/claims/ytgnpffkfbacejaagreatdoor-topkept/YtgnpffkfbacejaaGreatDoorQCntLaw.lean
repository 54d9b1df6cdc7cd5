/-
  What is to be proved of package count's object, whatever it is made of: how it lies in memory, and what New, Raise, Least and May do to it.
-/
import Derived.Test.YtgnpffkfbacejaaGreatDoorPack1
namespace Go.Proofs.YtgnpffkfbacejaaGreatDoor.Count
open Go.ChangeShapes Go.WideShapes Go.ChangeAt Go.RowKit
open Go.Proofs.YtgnpffkfbacejaaGreatDoor.M
set_option linter.unusedVariables false

structure Core (Cnt : World → Nat → Value → (Nat → Prop) → (ByteArray → Int) → Nat → Prop) : Prop where
  has : ∀ {W : World} {B : Nat} {p : Value} {S : Nat → Prop} {f : ByteArray → Int} {k : Nat}, Cnt W B p S f k → ∀ b, S b → B ≤ b ∧ b < W.heap.size
  only : ∀ {W W' : World} {B : Nat} {p : Value} {S T : Nat → Prop} {f : ByteArray → Int} {k : Nat}, Cnt W B p S f k → Only T W W' → (∀ b, S b → ¬ T b) → Cnt W' B p S f k
  new : ∀ (w : World) (B : Nat), B ≤ w.heap.size → Calls Tryz.prog 21 #[] w fun e w' => ∃ p S, e = .returned p ∧ Cnt w' B p S (fun _ => 0) 0 ∧ (∀ b, S b → w.heap.size ≤ b) ∧ Below w.heap.size w w'
theorem Core.below {Cnt : World → Nat → Value → (Nat → Prop) → (ByteArray → Int) → Nat → Prop} (L : Core Cnt) {W W' : World} {B : Nat} {p : Value} {S : Nat → Prop} {f : ByteArray → Int} {k : Nat} (h : Cnt W B p S f k) (hb : Below W.heap.size W W') : Cnt W' B p S f k :=
  L.only h (Only.of_below (S := fun _ => False) hb) (fun _ _ hf => hf)
/-- What Raise does, and what Least tells. -/
def RaiseLaw (Cnt : World → Nat → Value → (Nat → Prop) → (ByteArray → Int) → Nat → Prop) : Prop :=
  ∀ (p : Value) (S : Nat → Prop) (f : ByteArray → Int) (k : Nat) (nm : ByteArray) (v : Int) (w : World) (B : Nat), Cnt w B p S f k → nm.size ≤ 140737488351232 → B ≤ w.heap.size →
    Calls Tryz.prog 26 #[p, .string nm, .int .i64 v] w fun e w' => ∃ S', e = .returned (.tuple #[.bool (raiB f k nm v), errV 63 (raiE f k nm v)]) ∧ Cnt w' B p S' (raiF f k nm v) (raiK f k nm v) ∧ Only S w w' ∧ (∀ b, S' b → S b ∨ w.heap.size ≤ b)
def LeastLaw (Cnt : World → Nat → Value → (Nat → Prop) → (ByteArray → Int) → Nat → Prop) : Prop :=
  ∀ (p : Value) (S : Nat → Prop) (f : ByteArray → Int) (k : Nat) (nm : ByteArray) (w : World) (B : Nat), Cnt w B p S f k → nm.size ≤ 140737488351232 →
    Calls Tryz.prog 30 #[p, .string nm] w fun e w' => e = .returned (.tuple #[.int .i64 (leaV f nm), errV 63 (leaE nm)]) ∧ Below w.heap.size w w'
/-- All of it, where a law asks for both. -/
structure Laws (Cnt : World → Nat → Value → (Nat → Prop) → (ByteArray → Int) → Nat → Prop) : Prop extends Core Cnt where
  raise : RaiseLaw Cnt
  least : LeastLaw Cnt
/-- While nothing of it changes. -/
theorem Laws.below {Cnt : World → Nat → Value → (Nat → Prop) → (ByteArray → Int) → Nat → Prop} (L : Laws Cnt) {W W' : World} {B : Nat} {p : Value} {S : Nat → Prop} {f : ByteArray → Int} {k : Nat} (h : Cnt W B p S f k) (hb : Below W.heap.size W W') : Cnt W' B p S f k := L.toCore.below h hb
end Go.Proofs.YtgnpffkfbacejaaGreatDoor.Count
