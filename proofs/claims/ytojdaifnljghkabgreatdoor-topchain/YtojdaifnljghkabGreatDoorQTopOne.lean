/-
  Contract of stairtop.one, the closed fact ahead of each statement on the whole: what is signed is right.
-/
import Derived.Test.YtojdaifnljghkabGreatDoorPack1
namespace Go.Proofs.YtojdaifnljghkabGreatDoor.Top
open Go.ChangeShapes Go.WideShapes Go.ChangeAt Go.RowKit
open Go.Proofs.YtojdaifnljghkabGreatDoor.M Go.Proofs.YtojdaifnljghkabGreatDoor.Image
set_option linter.unusedVariables false

def osB : ByteArray := { data := #[111, 115] }
def noB : ByteArray := { data := #[] }
theorem img_os : imgE osB 1 noB = 0 := by decide +kernel
theorem sgn_os : sgnE 5 7 osB 1 noB = 0 := by rw [sgnE_ok img_os, sigC_ok rfl rfl (mea_is _ _ _)]
set_option maxHeartbeats 2000000 in
theorem one_any (w : World) (hh : Has w) : Calls Tryz.prog 36 #[] w fun e w' => e = .returned (.bool true) ∧ Below w.heap.size w w' := by
  have HH := hide (fun (W : World) (h : Below w.heap.size w W) => hh.below h)
  have P5 := hide (fun (W : World) => Key.public_ok 5 W rfl)
  have M1 := hide (fun (W : World) (h : Has W) => Sign.make_any 5 7 1 osB noB W (by decide) (by decide) h)
  have C1 := hide (fun (W : World) (h : Has W) => Sign.check_any (pwZ 64 5) 1 (sigP 5 7 (meaV osB 1 noB)) (sigA 5 7 (meaV osB 1 noB)) osB noB W (by decide) (by decide) h)
  rw [mkS_ok sgn_os, sgn_os, errV_zero] at M1
  rw [sld_own sgn_os, errV_zero] at C1
  unfold sgnC at M1 C1
  unfold imgC at M1
  generalize sigP 5 7 (meaV osB 1 noB) = p1 at *
  generalize sigA 5 7 (meaV osB 1 noB) = s1 at *
  unfold osB noB at M1 C1
  clear hh
  go_enter Tryz.func36, Tryz.ntmps36
  go_wp2_with (fail)
  refine (M1.out _ (HH.out _ (Below.refl _ _))).mono ?_
  rintro e w2 ⟨rfl, hb2⟩
  have HB2 := hide (below_on hb2 (below_new w2 (.cells #[.string { data := #[111, 115] }, .int .i64 1, .string { data := #[] }, .int .i64 p1, .int .i64 s1] 27)))
  clear hb2 M1
  go_wp2_with (fail)
  refine (P5.out _).mono ?_
  rintro e w3 ⟨rfl, hw⟩
  rw [hw]
  clear hw P5
  go_wp2_with (fail)
  refine (C1.out _ (HH.out _ HB2.out)).mono ?_
  rintro e w4 ⟨rfl, hb4⟩
  have HB4 := hide (below_on HB2.out hb4)
  clear hb4 HB2 C1
  go_wp2
  go_ret
  exact ⟨rfl, HB4.out⟩
end Go.Proofs.YtojdaifnljghkabGreatDoor.Top
