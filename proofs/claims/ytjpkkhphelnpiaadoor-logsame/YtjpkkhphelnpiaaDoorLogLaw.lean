/-
  What is to be proved of package log's object, whatever it is made of: how it lies in memory, and what New, Raise, Sync, Fail, Crash, Least, Bytes and Safe do to it.
-/
import Derived.Test.YtjpkkhphelnpiaaDoorLogMath
import Derived.Test.YtjpkkhphelnpiaaDoorOnly
import Derived.Test.YtjpkkhphelnpiaaDoorMeasure
import Derived.Test.YtjpkkhphelnpiaaDoorImg2
namespace Go.Proofs.YtjpkkhphelnpiaaDoor.Log
open Go.ChangeShapes Go.WideShapes Go.ChangeAt Go.RowKit
open Go.Proofs.YtjpkkhphelnpiaaDoor.M
set_option linter.unusedVariables false

/-- An int that a machine has. -/
theorem hi_of {n : Int} (h : (Lit.int .i64 n).wf = true) : n ≤ 9223372036854775807 := by
  simp [Lit.wf, IntKind.min, IntKind.max, IntKind.bits, IntKind.signed] at h
  omega
structure Core (Lg : World → Nat → Value → (Nat → Prop) → LS → Prop) : Prop where
  has : ∀ {W : World} {B : Nat} {p : Value} {S : Nat → Prop} {j : LS}, Lg W B p S j → ∀ b, S b → B ≤ b ∧ b < W.heap.size
  only : ∀ {W W' : World} {B : Nat} {p : Value} {S T : Nat → Prop} {j : LS}, Lg W B p S j → Only T W W' → (∀ b, S b → ¬ T b) → Lg W' B p S j
  ok : ∀ {W : World} {B : Nat} {p : Value} {S : Nat → Prop} {j : LS}, Lg W B p S j → OkL j
  new : ∀ (w : World) (B : Nat), B ≤ w.heap.size → Calls Tryd.prog 4 #[] w fun e w' => ∃ p S, e = .returned p ∧ Lg w' B p S newL ∧ (∀ b, S b → w.heap.size ≤ b) ∧ Below w.heap.size w w'
theorem Core.below {Lg : World → Nat → Value → (Nat → Prop) → LS → Prop} (L : Core Lg) {W W' : World} {B : Nat} {p : Value} {S : Nat → Prop} {j : LS} (h : Lg W B p S j) (hb : Below W.heap.size W W') : Lg W' B p S j :=
  L.only h (Only.of_below (S := fun _ => False) hb) (fun _ _ hf => hf)
/-- What Raise does; n: how many bytes the record has. -/
def RaiseLaw (Lg : World → Nat → Value → (Nat → Prop) → LS → Prop) : Prop :=
  ∀ (p : Value) (S : Nat → Prop) (j : LS) (nm : ByteArray) (v : Int) (w : World) (B : Nat), Lg w B p S j → nm.size ≤ 140737488351232 → Image.Has w → B ≤ w.heap.size →
    Calls Tryd.prog 5 #[p, .string nm, .int .i64 v] w fun e w' => ∃ S' n, 2 ≤ n ∧ n ≤ 1000 ∧ e = .returned (.tuple #[.bool (lraB j nm v), errV 35 (lraE j nm v)]) ∧ Lg w' B p S' (lraT j nm v n) ∧ Only S w w' ∧ (∀ b, S' b → S b ∨ w.heap.size ≤ b)
def BytesLaw (Lg : World → Nat → Value → (Nat → Prop) → LS → Prop) : Prop :=
  ∀ (p : Value) (S : Nat → Prop) (j : LS) (w : World) (B : Nat), Lg w B p S j →
    Calls Tryd.prog 6 #[p] w fun e w' => e = .returned (.int .i64 j.bytes) ∧ Below w.heap.size w w'
end Go.Proofs.YtjpkkhphelnpiaaDoor.Log
