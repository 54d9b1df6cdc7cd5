/-
  What is to be proved of package slot's object, whatever it is made of: how it lies in memory, and what New, Put, Pick, Start, Good and At do to it.
-/
import Derived.Test.YtojdaifnljghkabDoorQSlotMath
import Derived.Test.YtojdaifnljghkabDoorQOnly
import Derived.Test.YtojdaifnljghkabDoorPack1
namespace Go.Proofs.YtojdaifnljghkabDoor.M
/-- A signed image, and a slot, as values. -/
def sgA (s : Sg) : Value := .agg #[.string s.nm, .int .i64 s.v, .string s.cd, .int .i64 s.p, .int .i64 s.a]
def slA (l : Sl) : Value := .agg #[.string l.s.nm, .int .i64 l.s.v, .string l.s.cd, .int .i64 l.s.p, .int .i64 l.s.a, .bool l.full, .int .i64 l.tries, .bool l.good]
def szS (s : Sg) : Prop := s.nm.size ≤ 140737488351232 ∧ s.cd.size ≤ 140737488351232
def atE (i : Int) : Int := if i = 0 ∨ i = 1 then 0 else 1
def atL (t : St) (i : Int) : Sl := if i = 0 then t.x else if i = 1 then t.y else noSl
end Go.Proofs.YtojdaifnljghkabDoor.M
namespace Go.Proofs.YtojdaifnljghkabDoor.Slot
open Go.ChangeShapes Go.WideShapes Go.ChangeAt Go.RowKit
open Go.Proofs.YtojdaifnljghkabDoor.M
set_option linter.unusedVariables false

structure Core (Slt : World → Nat → Value → (Nat → Prop) → St → Prop) : Prop where
  has : ∀ {W : World} {B : Nat} {p : Value} {S : Nat → Prop} {t : St}, Slt W B p S t → ∀ b, S b → B ≤ b ∧ b < W.heap.size
  only : ∀ {W W' : World} {B : Nat} {p : Value} {S T : Nat → Prop} {t : St}, Slt W B p S t → Only T W W' → (∀ b, S b → ¬ T b) → Slt W' B p S t
  ok : ∀ {W : World} {B : Nat} {p : Value} {S : Nat → Prop} {t : St}, Slt W B p S t → OkT t
  newNo : ∀ (s : Sg) (w : World), szS s → ¬ sgE s = 0 → Calls Tryd.prog 13 #[sgA s] w fun e w' => e = .returned (.tuple #[.pointer none, errV 46 (sgE s)]) ∧ Below w.heap.size w w'
  new : ∀ (s : Sg) (w : World) (B : Nat), szS s → sgE s = 0 → B ≤ w.heap.size → Calls Tryd.prog 13 #[sgA s] w fun e w' => ∃ p S, e = .returned (.tuple #[p, .nilIface]) ∧ Slt w' B p S (newT s) ∧ (∀ b, S b → w.heap.size ≤ b) ∧ Below w.heap.size w w'
/-- While nothing of it changes. -/
theorem Core.below {Slt : World → Nat → Value → (Nat → Prop) → St → Prop} (L : Core Slt) {W W' : World} {B : Nat} {p : Value} {S : Nat → Prop} {t : St} (h : Slt W B p S t) (hb : Below W.heap.size W W') : Slt W' B p S t :=
  L.only h (Only.of_below (S := fun _ => False) hb) (fun _ _ hf => hf)
/-- What Good, Start and At do. -/
def GoodLaw (Slt : World → Nat → Value → (Nat → Prop) → St → Prop) : Prop :=
  ∀ (p : Value) (S : Nat → Prop) (t : St) (w : World) (B : Nat), Slt w B p S t → B ≤ w.heap.size →
    Calls Tryd.prog 19 #[p] w fun e w' => ∃ S', e = .returned (errV 46 (goodE t)) ∧ Slt w' B p S' (goodT t) ∧ Only S w w' ∧ (∀ b, S' b → S b ∨ w.heap.size ≤ b)
def StartLaw (Slt : World → Nat → Value → (Nat → Prop) → St → Prop) : Prop :=
  ∀ (p : Value) (S : Nat → Prop) (t : St) (w : World) (B : Nat), Slt w B p S t → B ≤ w.heap.size →
    Calls Tryd.prog 24 #[p] w fun e w' => ∃ S', e = .returned (sgA (t.at (pickT t)).s) ∧ Slt w' B p S' (startT t) ∧ Only S w w' ∧ (∀ b, S' b → S b ∨ w.heap.size ≤ b)
def AtLaw (Slt : World → Nat → Value → (Nat → Prop) → St → Prop) : Prop :=
  ∀ (p : Value) (S : Nat → Prop) (t : St) (i : Int) (w : World) (B : Nat), Slt w B p S t →
    Calls Tryd.prog 21 #[p, .int .i64 i] w fun e w' => e = .returned (.tuple #[slA (atL t i), errV 46 (atE i)]) ∧ Below w.heap.size w w'
/-- All of it, where a law asks for all. -/
structure Laws (Slt : World → Nat → Value → (Nat → Prop) → St → Prop) : Prop extends Core Slt where
  good : GoodLaw Slt
  start : StartLaw Slt
  at' : AtLaw Slt
/-- While nothing of it changes. -/
theorem Laws.below {Slt : World → Nat → Value → (Nat → Prop) → St → Prop} (L : Laws Slt) {W W' : World} {B : Nat} {p : Value} {S : Nat → Prop} {t : St} (h : Slt W B p S t) (hb : Below W.heap.size W W') : Slt W' B p S t := L.toCore.below h hb
def PickLaw (Slt : World → Nat → Value → (Nat → Prop) → St → Prop) : Prop :=
  ∀ (p : Value) (S : Nat → Prop) (t : St) (w : World) (B : Nat), Slt w B p S t →
    Calls Tryd.prog 22 #[p] w fun e w' => e = .returned (.int .i64 (idx (pickT t))) ∧ Below w.heap.size w w'
end Go.Proofs.YtojdaifnljghkabDoor.Slot
