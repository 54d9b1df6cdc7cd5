/-
  The program's counts and slots, and the reference's, as things that lie apart.
-/
import Derived.Test.YtojdaifnljghkabGreatDoorPack1
import Derived.Test.YtojdaifnljghkabGreatDoorQCntRef2
import Derived.Test.YtojdaifnljghkabGreatDoorQSlotRef4
namespace Go.Proofs.YtojdaifnljghkabGreatDoor.Update
open Go.ChangeShapes Go.WideShapes Go.ChangeAt Go.RowKit
open Go.Proofs.YtojdaifnljghkabGreatDoor.M Go.Proofs.YtojdaifnljghkabGreatDoor.CntRef Go.Proofs.YtojdaifnljghkabGreatDoor.SlotRef
set_option linter.unusedVariables false

def cntI {Cnt : World → Nat → Value → (Nat → Prop) → (ByteArray → Int) → Nat → Prop} (L : Count.Core Cnt) (B : Nat) (p : Value) (S : Nat → Prop) (f : ByteArray → Int) (k : Nat) : Thing B where
  F := S
  P := fun W => Cnt W B p S f k
  has := fun h => L.has h
  st := fun h ho hn => L.only h ho hn
def cisI (B g : Nat) (v : Value) (cs : List (ByteArray × Int)) : Thing B where
  F := cfoot g v
  P := fun W => CIs W B g v cs
  has := fun h => h.has
  st := fun h ho hn => h.only ho hn
def sltI {Slt : World → Nat → Value → (Nat → Prop) → St → Prop} (L : Slot.Core Slt) (B : Nat) (p : Value) (S : Nat → Prop) (t : St) : Thing B where
  F := S
  P := fun W => Slt W B p S t
  has := fun h => L.has h
  st := fun h ho hn => L.only h ho hn
def sisI (B g : Nat) (t : St) : Thing B where
  F := fun k => k = g
  P := fun W => SIs W B g t
  has := fun h k hk => by rw [hk]; exact ⟨h.2, blk_lt h.1⟩
  st := fun h ho hn => h.only ho (hn g rfl)
end Go.Proofs.YtojdaifnljghkabGreatDoor.Update
