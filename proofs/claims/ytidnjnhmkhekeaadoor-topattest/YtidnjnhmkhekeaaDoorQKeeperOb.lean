/-
  The program's keeper as a thing that lies apart from others; and what its calls do among such things.
-/
import Derived.Test.YtidnjnhmkhekeaaDoorQSep
import Derived.Test.YtidnjnhmkhekeaaDoorQKeeperLaw
namespace Go.Proofs.YtidnjnhmkhekeaaDoor.Keeper
open Go.ChangeShapes Go.WideShapes Go.ChangeAt Go.RowKit
open Go.Proofs.YtidnjnhmkhekeaaDoor.M
set_option linter.unusedVariables false

def kprI {Kpr : World → Nat → Value → (Nat → Prop) → KS → Prop} (L : Core Kpr) (B : Nat) (p : Value) (S : Nat → Prop) (s : KS) : Thing B where
  F := S
  P := fun W => Kpr W B p S s
  has := fun h => L.has h
  st := fun h ho hn => L.only h ho hn
section Ob
variable {Kpr : World → Nat → Value → (Nat → Prop) → KS → Prop} {LK : Core Kpr} {w0 W : World} {B : Nat} {its : List (Thing B)} {p : Value} {S : Nat → Prop} {s : KS}
theorem sep_new (LK : Core Kpr) (pub sec seed : Int) (ar : Option Addr) (rl : List (Int × Value × List Int)) (nr cr : Nat) (hn : nr = rl.length) (hm : nr ≤ maxLen) (hc : nr ≤ cr) (hr : RulesIn W ar rl) (hE : kprE pub sec seed (rulesL rl) = 0) (h : Sep w0 B its W) :
    Calls Tryd.prog 7 #[.int .i64 pub, .int .i64 sec, .int .i64 seed, .slice ar nr cr] W fun e w' => ∃ p S, e = .returned (.tuple #[p, .nilIface]) ∧ Sep w0 B (kprI LK B p S (newK pub sec seed (rulesL rl)) :: its) w' := by
  refine (LK.new pub sec seed ar rl nr cr W B hn hm hc hr hE h.hb).mono ?_
  rintro e w' ⟨p, S, rfl, _, hk, hf, hb⟩
  exact ⟨p, S, rfl, Sep.add (i := kprI LK B p S _) h hb hk hf⟩
/-- Ask, among things. -/
theorem sep_ask (AO : AskOk Kpr) (h : Sep w0 B (kprI LK B p S s :: its) W) (hf : ¬ fullK s) :
    Calls Tryd.prog 8 #[p] W fun e w' => ∃ S', e = .returned (.tuple #[.int .i64 (stp 7919 s.la s.mn), .nilIface]) ∧ Sep w0 B (kprI LK B p S' (askT s) :: its) w' := by
  refine (AO p S s W B h.p0 hf h.hb).mono ?_
  rintro e w' ⟨S', rfl, hk, ho, hf⟩
  exact ⟨S', rfl, h.step (i' := kprI LK B p S' (askT s)) hk ho hf⟩
/-- Give, among things: the events lie among what was there. -/
theorem sep_give {its : List (Thing w0.heap.size)} (GV : GiveLaw Kpr) (h : Sep w0 w0.heap.size (kprI LK w0.heap.size p S s :: its) W) (q : Int × Int × Int × Int × Int) (a : Option Addr) (es : List (Int × Int)) (n cap : Nat) (hn : n = es.length) (hm : n ≤ maxLen) (hr : RRow 2 evV w0 a es) :
    Calls Tryd.prog 10 #[p, .agg #[.int .i64 q.1, .int .i64 q.2.1, .int .i64 q.2.2.1, .int .i64 q.2.2.2.1, .int .i64 q.2.2.2.2], .slice a n cap] W fun e w' => ∃ S', e = .returned (.tuple #[.int .i64 (givV s q es), errV 77 (givE s q es)]) ∧ Sep w0 w0.heap.size (kprI LK w0.heap.size p S' (givT s q es) :: its) w' := by
  refine (GV p S s q a es n cap W w0.heap.size h.p0 hn hm (fun W' ho => hr.below (h.lo.trans (ho.below h.hb (fun k hk => (LK.has h.p0 k hk).1)))) h.hb).mono ?_
  rintro e w' ⟨S', rfl, hk, ho, hf⟩
  exact ⟨S', rfl, h.step (i' := kprI LK w0.heap.size p S' (givT s q es)) hk ho hf⟩
/-- Given, among things. -/
theorem sep_given (GN : GivenLaw Kpr) (h : Sep w0 B (kprI LK B p S s :: its) W) :
    Calls Tryd.prog 11 #[p] W fun e w' => e = .returned (.int .i64 s.n) ∧ Sep w0 B (kprI LK B p S s :: its) w' := by
  refine (GN p S s W B h.p0).mono ?_
  rintro e w' ⟨rfl, hb⟩
  exact ⟨rfl, h.below hb⟩
end Ob
end Go.Proofs.YtidnjnhmkhekeaaDoor.Keeper
