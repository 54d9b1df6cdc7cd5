/-
  The program's log as a thing that lies apart from others; and what its calls do among such things.
-/
import Derived.Test.YtgnpffkfbacejaaGreatDoorQSep
import Derived.Test.YtgnpffkfbacejaaGreatDoorPack1
namespace Go.Proofs.YtgnpffkfbacejaaGreatDoor.Log
open Go.ChangeShapes Go.WideShapes Go.ChangeAt Go.RowKit
open Go.Proofs.YtgnpffkfbacejaaGreatDoor.M
set_option linter.unusedVariables false

def logI {Lg : World → Nat → Value → (Nat → Prop) → LS → Prop} (L : Core Lg) (B : Nat) (p : Value) (S : Nat → Prop) (j : LS) : Thing B where
  F := S
  P := fun W => Lg W B p S j
  has := fun h => L.has h
  st := fun h ho hn => L.only h ho hn
section Ob
variable {Lg : World → Nat → Value → (Nat → Prop) → LS → Prop} {LL : Core Lg} {w0 W : World} {B : Nat} {its : List (Thing B)} {p : Value} {S : Nat → Prop} {j : LS}
theorem sep_new (LL : Core Lg) (h : Sep w0 B its W) :
    Calls Tryz.prog 5 #[] W fun e w' => ∃ p S, e = .returned p ∧ Sep w0 B (logI LL B p S newL :: its) w' := by
  refine (LL.new W B h.hb).mono ?_
  rintro e w' ⟨p, S, rfl, hk, hf, hb⟩
  exact ⟨p, S, rfl, Sep.add (i := logI LL B p S _) h hb hk hf⟩
theorem sep_rai (RL : RaiseLaw Lg) (h : Sep w0 B (logI LL B p S j :: its) W) (nm : ByteArray) (v : Int) (hn : nm.size ≤ 140737488351232) (hh : Image.Has W) :
    Calls Tryz.prog 6 #[p, .string nm, .int .i64 v] W fun e w' => ∃ S' n, 2 ≤ n ∧ n ≤ 1000 ∧ e = .returned (.tuple #[.bool (lraB j nm v), errV 63 (lraE j nm v)]) ∧ Sep w0 B (logI LL B p S' (lraT j nm v n) :: its) w' := by
  refine (RL p S j nm v W B h.p0 hn hh h.hb).mono ?_
  rintro e w' ⟨S', n, h1, h2, rfl, hk, ho, hf⟩
  exact ⟨S', n, h1, h2, rfl, h.step (i' := logI LL B p S' _) hk ho hf⟩
theorem sep_syn (SL : SyncLaw Lg) (h : Sep w0 B (logI LL B p S j :: its) W) :
    Calls Tryz.prog 7 #[p] W fun e w' => ∃ S', e = .returned (errV 63 (synE j)) ∧ Sep w0 B (logI LL B p S' (synT j) :: its) w' := by
  refine (SL p S j W B h.p0 h.hb).mono ?_
  rintro e w' ⟨S', rfl, hk, ho, hf⟩
  exact ⟨S', rfl, h.step (i' := logI LL B p S' _) hk ho hf⟩
theorem sep_fai (FL : FailLaw Lg) (h : Sep w0 B (logI LL B p S j :: its) W) (n : Int) (hn : n ≤ 9223372036854775807) :
    Calls Tryz.prog 12 #[p, .int .i64 n] W fun e w' => ∃ S', e = .returned (.tuple #[]) ∧ Sep w0 B (logI LL B p S' (faiT j n) :: its) w' := by
  refine (FL p S j n W B h.p0 hn h.hb).mono ?_
  rintro e w' ⟨S', rfl, hk, ho, hf⟩
  exact ⟨S', rfl, h.step (i' := logI LL B p S' _) hk ho hf⟩
theorem sep_cra (CL : CrashLaw Lg) (h : Sep w0 B (logI LL B p S j :: its) W) (n : Int) :
    Calls Tryz.prog 8 #[p, .int .i64 n] W fun e w' => ∃ S', e = .returned (.tuple #[]) ∧ Sep w0 B (logI LL B p S' (craT j n) :: its) w' := by
  refine (CL p S j n W B h.p0 h.hb).mono ?_
  rintro e w' ⟨S', rfl, hk, ho, hf⟩
  exact ⟨S', rfl, h.step (i' := logI LL B p S' _) hk ho hf⟩
theorem sep_lea (LE : LeastLaw Lg) (h : Sep w0 B (logI LL B p S j :: its) W) (nm : ByteArray) (hn : nm.size ≤ 140737488351232) :
    Calls Tryz.prog 9 #[p, .string nm] W fun e w' => e = .returned (.tuple #[.int .i64 (leaV j.f nm), errV 63 (leaE nm)]) ∧ Sep w0 B (logI LL B p S j :: its) w' := by
  refine (LE p S j nm W B h.p0 hn).mono ?_
  rintro e w' ⟨rfl, hb⟩
  exact ⟨rfl, h.below hb⟩
theorem sep_byt (BL : BytesLaw Lg) (h : Sep w0 B (logI LL B p S j :: its) W) :
    Calls Tryz.prog 10 #[p] W fun e w' => e = .returned (.int .i64 j.bytes) ∧ Sep w0 B (logI LL B p S j :: its) w' := by
  refine (BL p S j W B h.p0).mono ?_
  rintro e w' ⟨rfl, hb⟩
  exact ⟨rfl, h.below hb⟩
theorem sep_saf (SF : SafeLaw Lg) (h : Sep w0 B (logI LL B p S j :: its) W) :
    Calls Tryz.prog 11 #[p] W fun e w' => e = .returned (.int .i64 j.safe) ∧ Sep w0 B (logI LL B p S j :: its) w' := by
  refine (SF p S j W B h.p0).mono ?_
  rintro e w' ⟨rfl, hb⟩
  exact ⟨rfl, h.below hb⟩
end Ob
end Go.Proofs.YtgnpffkfbacejaaGreatDoor.Log
