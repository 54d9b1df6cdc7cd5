/-
  What is to be proved of package device's object, whatever it is made of: how it lies in memory, and what New, Update, Start, Good, Tell and Runs do to it.
-/
import Derived.Test.YtojdaifnljghkabGreatDoorQDeviceMath
import Derived.Test.YtojdaifnljghkabGreatDoorPack1
namespace Go.Proofs.YtojdaifnljghkabGreatDoor.Device
open Go.ChangeShapes Go.WideShapes Go.ChangeAt Go.RowKit
open Go.Proofs.YtojdaifnljghkabGreatDoor.M
set_option linter.unusedVariables false

structure Core (Dvc : World → Nat → Value → (Nat → Prop) → DS → Prop) : Prop where
  has : ∀ {W : World} {B : Nat} {p : Value} {S : Nat → Prop} {d : DS}, Dvc W B p S d → ∀ b, S b → B ≤ b ∧ b < W.heap.size
  only : ∀ {W W' : World} {B : Nat} {p : Value} {S T : Nat → Prop} {d : DS}, Dvc W B p S d → Only T W W' → (∀ b, S b → ¬ T b) → Dvc W' B p S d
  ok : ∀ {W : World} {B : Nat} {p : Value} {S : Nat → Prop} {d : DS}, Dvc W B p S d → OkD d
  newNo : ∀ (root x : Int) (s : Sg) (w : World), szS s → ¬ dvcE root x s = 0 → Calls Tryz.prog 7 #[.int .i64 root, .int .i64 x, sgA s] w fun e w' => e = .returned (.tuple #[.pointer none, errV 96 (dvcE root x s)]) ∧ Below w.heap.size w w'
  new : ∀ (root x : Int) (s : Sg) (w : World) (B : Nat), szS s → dvcE root x s = 0 → B ≤ w.heap.size → Calls Tryz.prog 7 #[.int .i64 root, .int .i64 x, sgA s] w fun e w' => ∃ p S, e = .returned (.tuple #[p, .nilIface]) ∧ Dvc w' B p S (newD root x s) ∧ (∀ b, S b → w.heap.size ≤ b) ∧ Below w.heap.size w w'
/-- While nothing of it changes. -/
theorem Core.below {Dvc : World → Nat → Value → (Nat → Prop) → DS → Prop} (L : Core Dvc) {W W' : World} {B : Nat} {p : Value} {S : Nat → Prop} {d : DS} (h : Dvc W B p S d) (hb : Below W.heap.size W W') : Dvc W' B p S d :=
  L.only h (Only.of_below (S := fun _ => False) hb) (fun _ _ hf => hf)
/-- What Update does. -/
def UpdateLaw (Dvc : World → Nat → Value → (Nat → Prop) → DS → Prop) : Prop :=
  ∀ (p : Value) (S : Nat → Prop) (d : DS) (a : Option Addr) (l : List (Int × Int × Int)) (n cap : Nat) (s : Sg) (w : World) (B : Nat), Dvc w B p S d → n = l.length → n ≤ maxLen → RRow 3 certV w a l → szS s → Image.Has w → B ≤ w.heap.size →
    Calls Tryz.prog 13 #[p, .slice a n cap, sgA s] w fun e w' => ∃ S', e = .returned (errV 96 (upeD d l s)) ∧ Dvc w' B p S' (updD d l s) ∧ Only S w w' ∧ (∀ b, S' b → S b ∨ w.heap.size ≤ b)
/-- What Start does. -/
def StartLaw (Dvc : World → Nat → Value → (Nat → Prop) → DS → Prop) : Prop :=
  ∀ (p : Value) (S : Nat → Prop) (d : DS) (w : World) (B : Nat), Dvc w B p S d → Image.Has w → B ≤ w.heap.size →
    Calls Tryz.prog 8 #[p] w fun e w' => ∃ S', e = .returned (.bool (trialD d)) ∧ Dvc w' B p S' (staD d) ∧ Only S w w' ∧ (∀ b, S' b → S b ∨ w.heap.size ≤ b)
/-- What Good does. -/
def GoodLaw (Dvc : World → Nat → Value → (Nat → Prop) → DS → Prop) : Prop :=
  ∀ (p : Value) (S : Nat → Prop) (d : DS) (w : World) (B : Nat), Dvc w B p S d → B ≤ w.heap.size →
    Calls Tryz.prog 11 #[p] w fun e w' => ∃ S', e = .returned (errV 96 (gooE d)) ∧ Dvc w' B p S' (gooD d) ∧ Only S w w' ∧ (∀ b, S' b → S b ∨ w.heap.size ≤ b)
/-- What Tell tells; the events lie in new memory. -/
def TellLaw (Dvc : World → Nat → Value → (Nat → Prop) → DS → Prop) : Prop :=
  ∀ (p : Value) (S : Nat → Prop) (d : DS) (k n m : Int) (w : World) (B : Nat), Dvc w B p S d → Image.Has w →
    Calls Tryz.prog 14 #[p, .int .i64 k, .int .i64 n, .int .i64 m] w fun e w' => (∃ ae ce, e = .returned (.tuple #[.agg #[.int .i64 (telQ d k n m).1, .int .i64 (telQ d k n m).2.1, .int .i64 (telQ d k n m).2.2.1, .int .i64 (telQ d k n m).2.2.2.1, .int .i64 (telQ d k n m).2.2.2.2], .slice ae (telL d k n m).length ce, errV 96 (telD d k n m)]) ∧ RRow 2 evV w' ae (telL d k n m) ∧ (∀ b, ae.map (·.block) = some b → w.heap.size ≤ b)) ∧ Below w.heap.size w w'
/-- What Runs tells. -/
def RunsLaw (Dvc : World → Nat → Value → (Nat → Prop) → DS → Prop) : Prop :=
  ∀ (p : Value) (S : Nat → Prop) (d : DS) (w : World) (B : Nat), Dvc w B p S d →
    Calls Tryz.prog 9 #[p] w fun e w' => e = .returned (.tuple #[.agg #[.string (if d.on = true then d.nm else { data := #[] }), .int .i64 (if d.on = true then d.v else 0), .string (if d.on = true then d.cd else { data := #[] })], errV 96 (runD d)]) ∧ Below w.heap.size w w'
end Go.Proofs.YtojdaifnljghkabGreatDoor.Device
