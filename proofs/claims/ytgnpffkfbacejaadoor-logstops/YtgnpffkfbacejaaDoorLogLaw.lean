/-
  What is to be proved of package log's object, whatever it is made of: how it lies in memory, and what New, Raise, Sync, Fail, Crash, Least, Bytes and Safe do to it.
-/
import Derived.Test.YtgnpffkfbacejaaDoorLogMath
import Derived.Test.YtgnpffkfbacejaaDoorOnly
import Derived.Test.YtgnpffkfbacejaaDoorMeasure
import Derived.Test.YtgnpffkfbacejaaDoorImg2
namespace Go.Proofs.YtgnpffkfbacejaaDoor.Log
open Go.ChangeShapes Go.WideShapes Go.ChangeAt Go.RowKit
open Go.Proofs.YtgnpffkfbacejaaDoor.M
set_option linter.unusedVariables false

/-- An int that a machine has. -/
theorem hi_of {n : Int} (h : (Lit.int .i64 n).wf = true) : n ≤ 9223372036854775807 := by
  simp [Lit.wf, IntKind.min, IntKind.max, IntKind.bits, IntKind.signed] at h
  omega
structure Core (Lg : World → Nat → Value → (Nat → Prop) → LS → Prop) : Prop where
  has : ∀ {W : World} {B : Nat} {p : Value} {S : Nat → Prop} {j : LS}, Lg W B p S j → ∀ b, S b → B ≤ b ∧ b < W.heap.size
  only : ∀ {W W' : World} {B : Nat} {p : Value} {S T : Nat → Prop} {j : LS}, Lg W B p S j → Only T W W' → (∀ b, S b → ¬ T b) → Lg W' B p S j
  ok : ∀ {W : World} {B : Nat} {p : Value} {S : Nat → Prop} {j : LS}, Lg W B p S j → OkL j
  new : ∀ (w : World) (B : Nat), B ≤ w.heap.size → Calls Tryd.prog 5 #[] w fun e w' => ∃ p S, e = .returned p ∧ Lg w' B p S newL ∧ (∀ b, S b → w.heap.size ≤ b) ∧ Below w.heap.size w w'
theorem Core.below {Lg : World → Nat → Value → (Nat → Prop) → LS → Prop} (L : Core Lg) {W W' : World} {B : Nat} {p : Value} {S : Nat → Prop} {j : LS} (h : Lg W B p S j) (hb : Below W.heap.size W W') : Lg W' B p S j :=
  L.only h (Only.of_below (S := fun _ => False) hb) (fun _ _ hf => hf)
/-- What Raise does; n: how many bytes the record has. -/
def RaiseLaw (Lg : World → Nat → Value → (Nat → Prop) → LS → Prop) : Prop :=
  ∀ (p : Value) (S : Nat → Prop) (j : LS) (nm : ByteArray) (v : Int) (w : World) (B : Nat), Lg w B p S j → nm.size ≤ 140737488351232 → Image.Has w → B ≤ w.heap.size →
    Calls Tryd.prog 7 #[p, .string nm, .int .i64 v] w fun e w' => ∃ S' n, 2 ≤ n ∧ n ≤ 1000 ∧ e = .returned (.tuple #[.bool (lraB j nm v), errV 41 (lraE j nm v)]) ∧ Lg w' B p S' (lraT j nm v n) ∧ Only S w w' ∧ (∀ b, S' b → S b ∨ w.heap.size ≤ b)
/-- What Sync does. -/
def SyncLaw (Lg : World → Nat → Value → (Nat → Prop) → LS → Prop) : Prop :=
  ∀ (p : Value) (S : Nat → Prop) (j : LS) (w : World) (B : Nat), Lg w B p S j → B ≤ w.heap.size →
    Calls Tryd.prog 9 #[p] w fun e w' => ∃ S', e = .returned (errV 41 (synE j)) ∧ Lg w' B p S' (synT j) ∧ Only S w w' ∧ (∀ b, S' b → S b ∨ w.heap.size ≤ b)
/-- What Fail does. -/
def FailLaw (Lg : World → Nat → Value → (Nat → Prop) → LS → Prop) : Prop :=
  ∀ (p : Value) (S : Nat → Prop) (j : LS) (n : Int) (w : World) (B : Nat), Lg w B p S j → n ≤ 9223372036854775807 → B ≤ w.heap.size →
    Calls Tryd.prog 6 #[p, .int .i64 n] w fun e w' => ∃ S', e = .returned (.tuple #[]) ∧ Lg w' B p S' (faiT j n) ∧ Only S w w' ∧ (∀ b, S' b → S b ∨ w.heap.size ≤ b)
/-- What Crash does. -/
def CrashLaw (Lg : World → Nat → Value → (Nat → Prop) → LS → Prop) : Prop :=
  ∀ (p : Value) (S : Nat → Prop) (j : LS) (n : Int) (w : World) (B : Nat), Lg w B p S j → B ≤ w.heap.size →
    Calls Tryd.prog 10 #[p, .int .i64 n] w fun e w' => ∃ S', e = .returned (.tuple #[]) ∧ Lg w' B p S' (craT j n) ∧ Only S w w' ∧ (∀ b, S' b → S b ∨ w.heap.size ≤ b)
/-- What Least, Bytes and Safe tell. -/
def LeastLaw (Lg : World → Nat → Value → (Nat → Prop) → LS → Prop) : Prop :=
  ∀ (p : Value) (S : Nat → Prop) (j : LS) (nm : ByteArray) (w : World) (B : Nat), Lg w B p S j → nm.size ≤ 140737488351232 →
    Calls Tryd.prog 11 #[p, .string nm] w fun e w' => e = .returned (.tuple #[.int .i64 (leaV j.f nm), errV 41 (leaE nm)]) ∧ Below w.heap.size w w'
def BytesLaw (Lg : World → Nat → Value → (Nat → Prop) → LS → Prop) : Prop :=
  ∀ (p : Value) (S : Nat → Prop) (j : LS) (w : World) (B : Nat), Lg w B p S j →
    Calls Tryd.prog 13 #[p] w fun e w' => e = .returned (.int .i64 j.bytes) ∧ Below w.heap.size w w'
def SafeLaw (Lg : World → Nat → Value → (Nat → Prop) → LS → Prop) : Prop :=
  ∀ (p : Value) (S : Nat → Prop) (j : LS) (w : World) (B : Nat), Lg w B p S j →
    Calls Tryd.prog 12 #[p] w fun e w' => e = .returned (.int .i64 j.safe) ∧ Below w.heap.size w w'
end Go.Proofs.YtgnpffkfbacejaaDoor.Log
