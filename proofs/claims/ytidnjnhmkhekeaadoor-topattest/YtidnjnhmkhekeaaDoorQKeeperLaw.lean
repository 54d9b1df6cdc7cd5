/-
  What is to be proved of package keeper's object, whatever it is made of: how it lies in memory, and what New, Ask, Give and Given do to it.
-/
import Derived.Test.YtidnjnhmkhekeaaDoorQKeeperMath
import Derived.Test.YtidnjnhmkhekeaaDoorPack2
import Derived.Test.YtidnjnhmkhekeaaDoorPack1
namespace Go.Proofs.YtidnjnhmkhekeaaDoor.Keeper
open Go.ChangeShapes Go.WideShapes Go.ChangeAt Go.RowKit
open Go.Proofs.YtidnjnhmkhekeaaDoor.M
set_option linter.unusedVariables false

structure Core (Kpr : World → Nat → Value → (Nat → Prop) → KS → Prop) : Prop where
  has : ∀ {W : World} {B : Nat} {p : Value} {S : Nat → Prop} {s : KS}, Kpr W B p S s → ∀ b, S b → B ≤ b ∧ b < W.heap.size
  only : ∀ {W W' : World} {B : Nat} {p : Value} {S T : Nat → Prop} {s : KS}, Kpr W B p S s → Only T W W' → (∀ b, S b → ¬ T b) → Kpr W' B p S s
  ok : ∀ {W : World} {B : Nat} {p : Value} {S : Nat → Prop} {s : KS}, Kpr W B p S s → OkK s
  newNo : ∀ (pub sec seed : Int) (ar : Option Addr) (rl : List (Int × Value × List Int)) (nr cr : Nat) (w : World), nr = rl.length → nr ≤ maxLen → nr ≤ cr → RulesIn w ar rl → ¬ kprE pub sec seed (rulesL rl) = 0 →
    Calls Tryd.prog 7 #[.int .i64 pub, .int .i64 sec, .int .i64 seed, .slice ar nr cr] w fun e w' => e = .returned (.tuple #[.pointer none, errV 77 (kprE pub sec seed (rulesL rl))]) ∧ Below w.heap.size w w'
  new : ∀ (pub sec seed : Int) (ar : Option Addr) (rl : List (Int × Value × List Int)) (nr cr : Nat) (w : World) (B : Nat), nr = rl.length → nr ≤ maxLen → nr ≤ cr → RulesIn w ar rl → kprE pub sec seed (rulesL rl) = 0 → B ≤ w.heap.size →
    Calls Tryd.prog 7 #[.int .i64 pub, .int .i64 sec, .int .i64 seed, .slice ar nr cr] w fun e w' => ∃ p S, e = .returned (.tuple #[p, .nilIface]) ∧ p ≠ .pointer none ∧ Kpr w' B p S (newK pub sec seed (rulesL rl)) ∧ (∀ b, S b → w.heap.size ≤ b) ∧ Below w.heap.size w w'
theorem Core.below {Kpr : World → Nat → Value → (Nat → Prop) → KS → Prop} (L : Core Kpr) {W W' : World} {B : Nat} {p : Value} {S : Nat → Prop} {s : KS} (h : Kpr W B p S s) (hb : Below W.heap.size W W') : Kpr W' B p S s :=
  L.only h (Only.of_below (S := fun _ => False) hb) (fun _ _ hf => hf)
/-- What Ask does: where there is no room, and where there is. -/
def AskNo (Kpr : World → Nat → Value → (Nat → Prop) → KS → Prop) : Prop :=
  ∀ (p : Value) (S : Nat → Prop) (s : KS) (w : World) (B : Nat), Kpr w B p S s → fullK s →
    Calls Tryd.prog 8 #[p] w fun e w' => e = .returned (.tuple #[.int .i64 0, .iface 77 (.int .i64 4)]) ∧ Below w.heap.size w w'
def AskOk (Kpr : World → Nat → Value → (Nat → Prop) → KS → Prop) : Prop :=
  ∀ (p : Value) (S : Nat → Prop) (s : KS) (w : World) (B : Nat), Kpr w B p S s → ¬ fullK s → B ≤ w.heap.size →
    Calls Tryd.prog 8 #[p] w fun e w' => ∃ S', e = .returned (.tuple #[.int .i64 (stp 7919 s.la s.mn), .nilIface]) ∧ Kpr w' B p S' (askT s) ∧ Only S w w' ∧ (∀ b, S' b → S b ∨ w.heap.size ≤ b)
/-- What Give does. -/
def GiveLaw (Kpr : World → Nat → Value → (Nat → Prop) → KS → Prop) : Prop :=
  ∀ (p : Value) (S : Nat → Prop) (s : KS) (q : Int × Int × Int × Int × Int) (a : Option Addr) (es : List (Int × Int)) (n cap : Nat) (w : World) (B : Nat), Kpr w B p S s → n = es.length → n ≤ maxLen → (∀ W, Only S w W → RRow 2 evV W a es) → B ≤ w.heap.size →
    Calls Tryd.prog 10 #[p, .agg #[.int .i64 q.1, .int .i64 q.2.1, .int .i64 q.2.2.1, .int .i64 q.2.2.2.1, .int .i64 q.2.2.2.2], .slice a n cap] w fun e w' => ∃ S', e = .returned (.tuple #[.int .i64 (givV s q es), errV 77 (givE s q es)]) ∧ Kpr w' B p S' (givT s q es) ∧ Only S w w' ∧ (∀ b, S' b → S b ∨ w.heap.size ≤ b)
/-- What Given tells. -/
def GivenLaw (Kpr : World → Nat → Value → (Nat → Prop) → KS → Prop) : Prop :=
  ∀ (p : Value) (S : Nat → Prop) (s : KS) (w : World) (B : Nat), Kpr w B p S s →
    Calls Tryd.prog 11 #[p] w fun e w' => e = .returned (.int .i64 s.n) ∧ Below w.heap.size w w'
end Go.Proofs.YtidnjnhmkhekeaaDoor.Keeper
