/-
  What is to be proved of package update's functions: what May and Do return, what becomes of the slots, and that all else stays as it was.
-/
import Derived.Test.YtojdaifnljghkaaGreatDoorQUpdMath
import Derived.Test.YtojdaifnljghkaaGreatDoorQCntLaw
import Derived.Test.YtojdaifnljghkaaGreatDoorQSlotLaw
import Derived.Test.YtojdaifnljghkaaGreatDoorPack1
namespace Go.Proofs.YtojdaifnljghkaaGreatDoor.M
/-- What both slots hold can be read whole. -/
def szT (t : St) : Prop := szS t.x.s ∧ szS t.y.s
theorem szT.at {t : St} (h : szT t) (i : Bool) : szS (t.at i).s := match i with | false => h.1 | true => h.2
theorem szS_none : szS noSg := ⟨by decide, by decide⟩
theorem szT.new {s : Sg} (h : szS s) : szT (newT s) := ⟨h, szS_none⟩
theorem szT.put {t : St} (h : szT t) (i : Bool) {l : Sl} (hl : szS l.s) : szT (t.put i l) := match i with | false => ⟨hl, h.2⟩ | true => ⟨h.1, hl⟩
theorem szT.run {t : St} (h : szT t) (i : Bool) : szT (runT t i) := h
theorem szT.putT {t : St} (h : szT t) {s : Sg} (hs : szS s) : szT (putT t s) := by
  unfold M.putT
  split
  · exact h.put _ hs
  · exact h
theorem szT.good {t : St} (h : szT t) : szT (goodT t) := by
  unfold goodT
  split
  · exact h
  · exact (h.put t.r (l := { (t.at t.r) with good := true, tries := 0 }) (h.at t.r)).put _ szS_none
theorem lessL_s (l : Sl) : (lessL l).s = l.s := by unfold lessL; split <;> rfl
theorem szT.start {t : St} (h : szT t) : szT (startT t) := by
  unfold startT
  exact (h.run _).put _ (by rw [lessL_s]; exact h.at _)
theorem szT.doT {root : Int} {l : List (Int × Int × Int)} {f : ByteArray → Int} {t : St} (h : szT t) {s : Sg} (hs : szS s) : szT (M.doT root l f t s) := by
  unfold M.doT
  split
  · exact h.putT hs
  · exact h
end Go.Proofs.YtojdaifnljghkaaGreatDoor.M
namespace Go.Proofs.YtojdaifnljghkaaGreatDoor.Update
open Go.ChangeShapes Go.WideShapes Go.ChangeAt Go.RowKit
open Go.Proofs.YtojdaifnljghkaaGreatDoor.M
set_option linter.unusedVariables false

def MayLaw (Cnt : World → Nat → Value → (Nat → Prop) → (ByteArray → Int) → Nat → Prop) : Prop :=
  ∀ (root : Int) (a : Option Addr) (l : List (Int × Int × Int)) (n cap : Nat) (p : Value) (S : Nat → Prop) (f : ByteArray → Int) (k : Nat) (now next : Sg) (w : World) (B : Nat), n = l.length → n ≤ maxLen → RRow 3 certV w a l → Image.Has w → Cnt w B p S f k → szS now → szS next →
    Calls Tryz.prog 11 #[.int .i64 root, .slice a n cap, p, sgA now, sgA next] w fun e w' => e = .returned (errV 77 (updE root l f now next)) ∧ Below w.heap.size w w'
def DoLaw (Cnt : World → Nat → Value → (Nat → Prop) → (ByteArray → Int) → Nat → Prop) (Slt : World → Nat → Value → (Nat → Prop) → St → Prop) : Prop :=
  ∀ (root : Int) (a : Option Addr) (l : List (Int × Int × Int)) (n cap : Nat) (p : Value) (S : Nat → Prop) (f : ByteArray → Int) (k : Nat) (q : Value) (T : Nat → Prop) (t : St) (next : Sg) (w : World) (B : Nat), n = l.length → n ≤ maxLen → RRow 3 certV w a l → Image.Has w →
    Cnt w B p S f k → Slt w B q T t → szT t → szS next → B ≤ w.heap.size →
    Calls Tryz.prog 13 #[.int .i64 root, .slice a n cap, p, q, sgA next] w fun e w' => ∃ T', e = .returned (errV 77 (doE root l f t next)) ∧ Slt w' B q T' (doT root l f t next) ∧ Only T w w' ∧ (∀ b, T' b → T b ∨ w.heap.size ≤ b)
end Go.Proofs.YtojdaifnljghkaaGreatDoor.Update
