/-
  The program's device as a thing that lies apart from others; and what its calls do among such things.
-/
import Derived.Test.YtojdaifnljghkabGreatDoorPack1
import Derived.Test.YtojdaifnljghkabGreatDoorQDeviceLaw
namespace Go.Proofs.YtojdaifnljghkabGreatDoor.Device
open Go.ChangeShapes Go.WideShapes Go.ChangeAt Go.RowKit
open Go.Proofs.YtojdaifnljghkabGreatDoor.M
set_option linter.unusedVariables false

def dvcI {Dvc : World → Nat → Value → (Nat → Prop) → DS → Prop} (L : Core Dvc) (B : Nat) (p : Value) (S : Nat → Prop) (d : DS) : Thing B where
  F := S
  P := fun W => Dvc W B p S d
  has := fun h => L.has h
  st := fun h ho hn => L.only h ho hn
section Ob
variable {Dvc : World → Nat → Value → (Nat → Prop) → DS → Prop} {LD : Core Dvc} {w0 W : World} {B : Nat} {its : List (Thing B)} {p : Value} {S : Nat → Prop} {d : DS}
theorem sep_new (LD : Core Dvc) (root x : Int) (s : Sg) (hs : szS s) (hE : dvcE root x s = 0) (h : Sep w0 B its W) :
    Calls Tryz.prog 7 #[.int .i64 root, .int .i64 x, sgA s] W fun e w' => ∃ p S, e = .returned (.tuple #[p, .nilIface]) ∧ Sep w0 B (dvcI LD B p S (newD root x s) :: its) w' := by
  refine (LD.new root x s W B hs hE h.hb).mono ?_
  rintro e w' ⟨p, S, rfl, hk, hf, hb⟩
  exact ⟨p, S, rfl, Sep.add (i := dvcI LD B p S _) h hb hk hf⟩
theorem sep_upd (UL : UpdateLaw Dvc) (h : Sep w0 B (dvcI LD B p S d :: its) W) (a : Option Addr) (l : List (Int × Int × Int)) (n cap : Nat) (s : Sg) (hn : n = l.length) (hm : n ≤ maxLen) (hr : RRow 3 certV W a l) (hs : szS s) (hh : Image.Has W) :
    Calls Tryz.prog 13 #[p, .slice a n cap, sgA s] W fun e w' => ∃ S', e = .returned (errV 96 (upeD d l s)) ∧ Sep w0 B (dvcI LD B p S' (updD d l s) :: its) w' := by
  refine (UL p S d a l n cap s W B h.p0 hn hm hr hs hh h.hb).mono ?_
  rintro e w' ⟨S', rfl, hk, ho, hf⟩
  exact ⟨S', rfl, h.step (i' := dvcI LD B p S' _) hk ho hf⟩
theorem sep_sta (SL : StartLaw Dvc) (h : Sep w0 B (dvcI LD B p S d :: its) W) (hh : Image.Has W) :
    Calls Tryz.prog 8 #[p] W fun e w' => ∃ S', e = .returned (.bool (trialD d)) ∧ Sep w0 B (dvcI LD B p S' (staD d) :: its) w' := by
  refine (SL p S d W B h.p0 hh h.hb).mono ?_
  rintro e w' ⟨S', rfl, hk, ho, hf⟩
  exact ⟨S', rfl, h.step (i' := dvcI LD B p S' _) hk ho hf⟩
theorem sep_goo (GL : GoodLaw Dvc) (h : Sep w0 B (dvcI LD B p S d :: its) W) :
    Calls Tryz.prog 11 #[p] W fun e w' => ∃ S', e = .returned (errV 96 (gooE d)) ∧ Sep w0 B (dvcI LD B p S' (gooD d) :: its) w' := by
  refine (GL p S d W B h.p0 h.hb).mono ?_
  rintro e w' ⟨S', rfl, hk, ho, hf⟩
  exact ⟨S', rfl, h.step (i' := dvcI LD B p S' _) hk ho hf⟩
theorem sep_tel (TL : TellLaw Dvc) (h : Sep w0 B (dvcI LD B p S d :: its) W) (k n m : Int) (hh : Image.Has W) :
    Calls Tryz.prog 14 #[p, .int .i64 k, .int .i64 n, .int .i64 m] W fun e w' => ∃ ae ce, e = .returned (.tuple #[.agg #[.int .i64 (telQ d k n m).1, .int .i64 (telQ d k n m).2.1, .int .i64 (telQ d k n m).2.2.1, .int .i64 (telQ d k n m).2.2.2.1, .int .i64 (telQ d k n m).2.2.2.2], .slice ae (telL d k n m).length ce, errV 96 (telD d k n m)]) ∧ RRow 2 evV w' ae (telL d k n m) ∧ Sep w0 B (dvcI LD B p S d :: its) w' := by
  refine (TL p S d k n m W B h.p0 hh).mono ?_
  rintro e w' ⟨⟨ae, ce, rfl, hr, _⟩, hb⟩
  exact ⟨ae, ce, rfl, hr, h.below hb⟩
theorem sep_run (RL : RunsLaw Dvc) (h : Sep w0 B (dvcI LD B p S d :: its) W) :
    Calls Tryz.prog 9 #[p] W fun e w' => e = .returned (.tuple #[.agg #[.string (if d.on = true then d.nm else { data := #[] }), .int .i64 (if d.on = true then d.v else 0), .string (if d.on = true then d.cd else { data := #[] })], errV 96 (runD d)]) ∧ Sep w0 B (dvcI LD B p S d :: its) w' := by
  refine (RL p S d W B h.p0).mono ?_
  rintro e w' ⟨rfl, hb⟩
  exact ⟨rfl, h.below hb⟩
end Ob
end Go.Proofs.YtojdaifnljghkabGreatDoor.Device
