/-
  Contract of what package stairref1 says on signed images (Sealed): it returns what the plain mathematics says, and memory that was there stays as it was.
-/
import Derived.Test.YtojdaifnljghkabGreatDoorQKeyRef2
import Derived.Test.YtojdaifnljghkabGreatDoorQRef3
import Derived.Test.YtojdaifnljghkabGreatDoorPack1
import Derived.Deep.RegionHeld3
namespace Go.Proofs.YtojdaifnljghkabGreatDoor.Ref
open Go.ChangeShapes Go.WideShapes Go.ChangeAt Go.RowKit
open Go.Proofs.YtojdaifnljghkabGreatDoor.M Go.Proofs.YtojdaifnljghkabGreatDoor.Key Go.Proofs.YtojdaifnljghkabGreatDoor.Image
set_option linter.unusedVariables false

/-- A signed image lies in its block, and all that was there is as it was. -/
def HeldS (w0 : World) (b : Nat) (nm : ByteArray) (v : Int) (cd : ByteArray) (p a : Int) (W : World) : Prop :=
  Below w0.heap.size w0 W ∧ W.heap[b]? = some (.cells #[.string nm, .int .i64 v, .string cd, .int .i64 p, .int .i64 a] 27)
section
variable {w0 W W' : World} {b : Nat} {nm cd : ByteArray} {v p a : Int}
theorem heldS_S (h : HeldS w0 b nm v cd p a W) : W.cell? ⟨b, 0, none⟩ = some (.string nm) ∧ W.cell? ⟨b, 1, none⟩ = some (.int .i64 v) ∧ W.cell? ⟨b, 2, none⟩ = some (.string cd) ∧ W.cell? ⟨b, 3, none⟩ = some (.int .i64 p) ∧ W.cell? ⟨b, 4, none⟩ = some (.int .i64 a) ∧ HeldS w0 b nm v cd p a W := by
  obtain ⟨r0, r1, r2, r3, r4⟩ := cells5 h.2
  exact ⟨r0, r1, r2, r3, r4, h⟩
theorem heldS_drew (h : HeldS w0 b nm v cd p a W) : HeldS w0 b nm v cd p a W.drew := ⟨Below.drew h.1, h.2⟩
theorem heldS_below (h : HeldS w0 b nm v cd p a W) (hb : Below W.heap.size W W') : HeldS w0 b nm v cd p a W' := ⟨below_on h.1 hb, blk_below h.2 hb⟩
end

set_option maxHeartbeats 4000000 in
theorem sealed_any (q v p a : Int) (nm cd : ByteArray) (w : World) (hn : nm.size ≤ 140737488351232) (hc : cd.size ≤ 140737488351232) :
    Calls Tryz.prog 107 #[.int .i64 q, .agg (sgnC nm v cd p a)] w fun e w' => e = .returned (.int .i64 (sldE q nm v cd p a)) ∧ Below w.heap.size w w' := by
  have HS : Hid (HeldS w w.heap.size nm v cd p a (w.alloc (.cells (sgnC nm v cd p a) 27))) := ⟨below_new _ _, blk_new _ _⟩
  have IM := hide (fun W => image_any nm cd v W hn hc)
  unfold sgnC at HS ⊢
  unfold imgC at IM
  go_enter Tryz.func107, Tryz.ntmps107
  go_wp2_with (fail)
  refine (IM.out _).mono ?_
  rintro e w1 ⟨rfl, hb1⟩
  have HS1 := hide (heldS_below HS.out hb1)
  clear hb1 HS IM
  by_cases hE : imgE nm v cd = 0
  · have E := hide (sldE_ok (q := q) (p := p) (a := a) hE)
    have LN := hide (fun W => line_ok nm cd v W hE)
    have TX := hide (fun W => text_ok (lineB nm v cd) W (Nat.le_trans (line_size nm cd v hE) (by omega)))
    rw [← meaV_ok hE] at TX
    have RG := hide (fun W => right_any q (meaV nm v cd) p a W)
    unfold imgC at LN
    unfold sealC at RG
    rw [hE]
    clear hE
    generalize rigC q (meaV nm v cd) p a = rc at *
    generalize meaV nm v cd = mv at *
    generalize lineB nm v cd = ln at *
    have hH : HeldS w w.heap.size nm v cd p a w1 := HS1.out
    obtain ⟨r0, r1, r2, r3, r4, _⟩ := heldS_S hH
    go_upto_region 3 with (fail)
    go_cut [5] (fun s5 w' => s5 = .int .i64 rc ∧ HeldS w w.heap.size nm v cd p a w')
    case first =>
      go_region_held3 (fun w' => w'.cell? ⟨w.heap.size, 0, none⟩ = some (.string nm) ∧ w'.cell? ⟨w.heap.size, 1, none⟩ = some (.int .i64 v) ∧ w'.cell? ⟨w.heap.size, 2, none⟩ = some (.string cd) ∧ w'.cell? ⟨w.heap.size, 3, none⟩ = some (.int .i64 p) ∧ w'.cell? ⟨w.heap.size, 4, none⟩ = some (.int .i64 a) ∧ HeldS w w.heap.size nm v cd p a w')
        (exact heldS_S (by repeat (first | assumption | apply heldS_drew)))
        (first
          | (go_at_call 25; refine (LN.out _).mono ?_; rintro e w5 ⟨rfl, hb5⟩; have h5 : HeldS w w.heap.size nm v cd p a w5 := heldS_below (by repeat (first | assumption | apply heldS_drew)) hb5; clear hb5; obtain ⟨m0, m1, m2, m3, m4, _⟩ := heldS_S h5)
          | (go_at_call 24; refine (TX.out _).mono ?_; rintro e w6 ⟨rfl, rfl⟩)
          | (go_at_call 133; refine (RG.out _).mono ?_; rintro e w7 ⟨rfl, hb7⟩; have h7 : HeldS w w.heap.size nm v cd p a w7 := heldS_below (by repeat (first | assumption | apply heldS_drew)) hb7; clear hb7; obtain ⟨n0, n1, n2, n3, n4, _⟩ := heldS_S h7))
      all_goals
        go_wp2
        go_meet
        exact ⟨rfl, by repeat (first | assumption | apply heldS_drew)⟩
    case rest =>
    obtain ⟨rfl, hk⟩ := hcut
    have HK := hide hk
    clear hk
    go_wp2
    go_ret
    exact ⟨by rw [E.out]; rfl, HK.out.1⟩
  · have E := hide (sldE_img (q := q) (p := p) (a := a) hE)
    go_wp2
    go_ret
    exact ⟨by rw [E.out]; rfl, HS1.out.1⟩
end Go.Proofs.YtojdaifnljghkabGreatDoor.Ref
