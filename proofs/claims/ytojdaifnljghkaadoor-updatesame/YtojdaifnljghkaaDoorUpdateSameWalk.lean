/-
  The walk of stairlaw4.UpdateSame: it returns true, and memory that was there stays as it was.
-/
import Derived.Test.YtojdaifnljghkaaDoorSign1
import Derived.Test.YtojdaifnljghkaaDoorUpdLaw
import Derived.Test.YtojdaifnljghkaaDoorSep
import Derived.Test.YtojdaifnljghkaaDoorAs
import Derived.Deep.RegionHeld3
namespace Go.Proofs.YtojdaifnljghkaaDoor.UpdateSame
open Go.ChangeShapes Go.WideShapes Go.ChangeAt Go.RowKit
open Go.Proofs.YtojdaifnljghkaaDoor.M Go.Proofs.YtojdaifnljghkaaDoor.Key Go.Proofs.YtojdaifnljghkaaDoor.Image
set_option linter.unusedVariables false

/-- A signed image lies in its block, and all that was there is as it was. -/
def HeldU (w0 : World) (b : Nat) (nm : ByteArray) (v : Int) (cd : ByteArray) (p a : Int) (W : World) : Prop :=
  Below w0.heap.size w0 W ∧ W.heap[b]? = some (.cells #[.string nm, .int .i64 v, .string cd, .int .i64 p, .int .i64 a] 52)
section
variable {w0 W W' : World} {b : Nat} {nm cd : ByteArray} {v p a : Int}
theorem heldU_S (h : HeldU w0 b nm v cd p a W) : W.cell? ⟨b, 0, none⟩ = some (.string nm) ∧ W.cell? ⟨b, 1, none⟩ = some (.int .i64 v) ∧ W.cell? ⟨b, 2, none⟩ = some (.string cd) ∧ W.cell? ⟨b, 3, none⟩ = some (.int .i64 p) ∧ W.cell? ⟨b, 4, none⟩ = some (.int .i64 a) ∧ HeldU w0 b nm v cd p a W := by
  obtain ⟨r0, r1, r2, r3, r4⟩ := cells5 h.2
  exact ⟨r0, r1, r2, r3, r4, h⟩
theorem heldU_drew (h : HeldU w0 b nm v cd p a W) : HeldU w0 b nm v cd p a W.drew := ⟨Below.drew h.1, h.2⟩
theorem heldU_below (h : HeldU w0 b nm v cd p a W) (hb : Below W.heap.size W W') : HeldU w0 b nm v cd p a W' := ⟨below_on h.1 hb, blk_below h.2 hb⟩
end
theorem cnt_drew {Cnt : World → Nat → Value → (Nat → Prop) → (ByteArray → Int) → Nat → Prop} (L : Count.Core Cnt) {W : World} {B : Nat} {p : Value} {S : Nat → Prop} {f : ByteArray → Int} {k : Nat} (h : Cnt W B p S f k) : Cnt W.drew B p S f k := L.below h (Below.drew (Below.refl _ _))

set_option maxRecDepth 20000 in
set_option maxHeartbeats 4000000 in
theorem walk {Cnt : World → Nat → Value → (Nat → Prop) → (ByteArray → Int) → Nat → Prop} (L : Count.Core Cnt) (LM : Update.MayLaw Cnt) (x k v : Int) (nm cd : ByteArray) (w : World) (hn : nm.size ≤ 140737488351232) (hc : cd.size ≤ 140737488351232) (hh : Has w) (hg : As.Handle w) :
    Calls Tryd.prog 7 #[.int .i64 x, .int .i64 k, .agg (imgC nm v cd)] w fun e w' => e = .returned (.bool true) ∧ Below w.heap.size w w' := by
  have HB := hide (below_new w (.cells #[.string nm, .int .i64 v, .string cd] 48))
  have HH := hide (fun (W : World) (h : Below w.heap.size w W) => hh.below h)
  have HG := hide (fun (W : World) (h : Below w.heap.size w W) => hg.below h)
  have HL := hide L
  have M1 := hide (fun (W : World) (h : Has W) => Sign.make_any x k v nm cd W hn hc h)
  have HNC := hide (show szS ⟨nm, v, cd, sigP x k (meaV nm v cd), sigA x k (meaV nm v cd)⟩ from ⟨hn, hc⟩)
  unfold imgC at M1 ⊢
  clear hh hg L hn hc
  go_enter Tryd.func7, Tryd.ntmps7
  go_wp2_with (fail)
  refine (M1.out _ (HH.out _ HB.out)).mono ?_
  rintro e w1 ⟨rfl, hb1⟩
  have HB1 := hide (below_on HB.out hb1)
  clear hb1 HB M1
  by_cases hS : sgnE x k nm v cd = 0
  · obtain ⟨_, hz⟩ := sgnE_zero hS
    obtain ⟨hx, _, _⟩ := sigC_zero hz
    have PX := hide (fun W => public_ok x W hx)
    have UE := hide (fun (f : ByteArray → Int) => show updE (pwZ 64 x) [] f (sgO x k nm v cd) (sgO x k nm v cd) = 9 from upd_same (by rw [(lastV_nil _).2, if_pos (pwZ_in x)]) (by rw [(lastV_nil _).1, if_pos (pwZ_in x)]; exact own_sld hS))
    have MY := hide (fun (W : World) (p : Value) (S : Nat → Prop) (h1 : Has W) (h2 : Cnt W w.heap.size p S (fun _ => 0) 0) => LM (pwZ 64 x) none [] 0 0 p S (fun _ => 0) 0 (sgO x k nm v cd) (sgO x k nm v cd) W w.heap.size rfl (by unfold maxLen; omega) (RRow.nil _ _) h1 h2 HNC.out HNC.out)
    rw [UE.out, errV_ne (by decide)] at MY
    unfold sgA sgO at MY
    simp only [] at MY
    rw [mkS_ok hS, hS, errV_zero]
    unfold sgnC
    clear hS hz hx UE HNC LM
    generalize sigP x k (meaV nm v cd) = p at *
    generalize sigA x k (meaV nm v cd) = a at *
    generalize pwZ 64 x = q at *
    have h2 : HeldU w w1.heap.size nm v cd p a (w1.alloc (.cells #[.string nm, .int .i64 v, .string cd, .int .i64 p, .int .i64 a] 52)) := ⟨below_on HB1.out (below_new _ _), blk_new _ _⟩
    obtain ⟨r0, r1, r2, r3, r4, _⟩ := heldU_S h2
    clear HB1
    go_wp2_with (fail)
    refine (PX.out _).mono ?_
    rintro e w3 ⟨rfl, hw3⟩
    rw [hw3]
    clear hw3 PX
    go_wp2_with (fail)
    go_region_held3 (fun W => W.cell? ⟨w1.heap.size, 0, none⟩ = some (.string nm) ∧ W.cell? ⟨w1.heap.size, 1, none⟩ = some (.int .i64 v) ∧ W.cell? ⟨w1.heap.size, 2, none⟩ = some (.string cd) ∧ W.cell? ⟨w1.heap.size, 3, none⟩ = some (.int .i64 p) ∧ W.cell? ⟨w1.heap.size, 4, none⟩ = some (.int .i64 a) ∧ HeldU w w1.heap.size nm v cd p a W)
      (exact heldU_S (by repeat (first | assumption | apply heldU_drew)))
      (first
        | (go_at_call 8; refine (HL.out.new _ w.heap.size (show HeldU w w1.heap.size nm v cd p a _ by repeat (first | assumption | apply heldU_drew)).1.size).mono ?_; rintro e w5 ⟨cp, cS, rfl, hn5, hf5, hb5⟩; have h5 : HeldU w w1.heap.size nm v cd p a w5 := heldU_below (by repeat (first | assumption | apply heldU_drew)) hb5; clear hb5 hf5; obtain ⟨m0, m1, m2, m3, m4, _⟩ := heldU_S h5)
        | (go_at_call 19; refine (MY.out _ cp cS (HH.out _ (show HeldU w w1.heap.size nm v cd p a _ by repeat (first | assumption | apply heldU_drew)).1) (by repeat (first | assumption | apply cnt_drew HL.out))).mono ?_; rintro e w6 ⟨rfl, hb6⟩; have h6 : HeldU w w1.heap.size nm v cd p a w6 := heldU_below (by repeat (first | assumption | apply heldU_drew)) hb6; clear hb6; obtain ⟨n0, n1, n2, n3, n4, _⟩ := heldU_S h6)
        | (go_at_call 11; refine (As.same_err 9 9 _ (HG.out _ (show HeldU w w1.heap.size nm v cd p a _ by repeat (first | assumption | apply heldU_drew)).1)).mono ?_; rintro e w7 ⟨rfl, hb7⟩; have h7 : HeldU w w1.heap.size nm v cd p a w7 := heldU_below (by repeat (first | assumption | apply heldU_drew)) hb7; clear hb7; obtain ⟨o0, o1, o2, o3, o4, _⟩ := heldU_S h7))
    all_goals
      go_wp2
      go_ret
      exact ⟨rfl, (show HeldU w w1.heap.size nm v cd p a _ by repeat (first | assumption | apply heldU_drew)).1⟩
  · have HX := hide (errV_ne (T := 72) hS)
    rw [HX.out, mkS_no hS]
    unfold sgnC
    clear hS HX
    go_wp2
    go_ret
    exact ⟨rfl, below_on HB1.out (below_new _ _)⟩
end Go.Proofs.YtojdaifnljghkaaDoor.UpdateSame
