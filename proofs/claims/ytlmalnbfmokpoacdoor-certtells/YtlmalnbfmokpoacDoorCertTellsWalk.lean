/-
  The walk of stairlaw1.CertTells: it returns true, and memory that was there stays as it was.
-/
import Derived.Test.YtlmalnbfmokpoacDoorCertRef
import Derived.Test.YtlmalnbfmokpoacDoorCert1
import Derived.Test.YtlmalnbfmokpoacDoorAs
namespace Go.Proofs.YtlmalnbfmokpoacDoor.CertTells
open Go.ChangeShapes Go.WideShapes Go.ChangeAt Go.RowKit
open Go.Proofs.YtlmalnbfmokpoacDoor.M Go.Proofs.YtlmalnbfmokpoacDoor.Key Go.Proofs.YtlmalnbfmokpoacDoor.Cert
set_option linter.unusedVariables false

set_option maxRecDepth 20000 in
set_option maxHeartbeats 4000000 in
theorem walk (x k q root : Int) (ad : Option Addr) (n cap : Nat) (l : List (Int × Int × Int)) (w : World) (hn : n = l.length) (hm : n ≤ maxLen) (hr : RRow 3 certV w ad l) (hg : As.Handle w) :
    Calls Tryd.prog 3 #[.int .i64 x, .int .i64 k, .int .i64 q, .int .i64 root, .slice ad n cap] w fun e w' => e = .returned (.bool true) ∧ Below w.heap.size w w' := by
  have HN := hide hn
  have HM := hide hm
  have HR := hide hr
  have HG := hide hg
  clear hn hm hr hg
  have HB0 := hide (below_new w (.cells #[.int .i64 0, .int .i64 0, .int .i64 0] 26))
  have HW0 := hide (blk_new w (.cells #[.int .i64 0, .int .i64 0, .int .i64 0] 26))
  have MK := hide (fun W => make_any x k q W)
  obtain ⟨⟨vk, vp, va⟩, hv⟩ : ∃ v : Int × Int × Int, v = mkV x k q := ⟨_, rfl⟩
  have HV := hide hv
  clear hv
  rw [← HV.out] at MK
  unfold certC at MK
  simp only [] at MK
  go_enter Tryd.func3, Tryd.ntmps3
  go_wp2_with (fail)
  refine (Ref.in_any q _).mono ?_
  rintro e w1 ⟨rfl, hw1⟩
  rw [hw1]
  clear hw1
  go_upto_if 22 with (fail)
  go_cut [11, 13, 21, 22] (fun s11 _ _ _ w' => s11 = .int .i64 (mkC x k q) ∧ Below w.heap.size w w' ∧ w'.heap[w.heap.size]? = some (.cells #[.int .i64 vk, .int .i64 vp, .int .i64 va] 26))
  case first =>
    cases hq : inB q with
    | false =>
      have e1 := mkC_no (x := x) (k := k) hq
      have e2 := HV.out.trans (mkV_no (x := x) (k := k) (q := q) (by rw [e1]; decide))
      have E := hide e1
      simp only [Prod.mk.injEq] at e2
      obtain ⟨e3, e4, e5⟩ := e2
      have HW1 : Hid ((w.alloc (.cells #[.int .i64 0, .int .i64 0, .int .i64 0] 26)).heap[w.heap.size]? = some (.cells #[.int .i64 vk, .int .i64 vp, .int .i64 va] 26)) := by
        rw [e3, e4, e5]; exact HW0.out
      clear e1 e3 e4 e5 HW0 HV MK
      go_wp2
      go_meet
      exact ⟨by rw [E.out], HB0.out, HW1.out⟩
    | true =>
      have E := hide (mkC_ok (x := x) (k := k) hq)
      go_wp2_with (fail)
      refine (Ref.signed_any x k q _).mono ?_
      rintro e w2 ⟨rfl, hw2⟩
      rw [hw2]
      clear hw2
      have SR := hide (fun (W : World) (h : sigC x k q = 0) => Ref.sign_ok x k q W (sigC_zero h).1 (sigC_zero h).2.1 (sigC_zero h).2.2)
      unfold sealC at SR
      by_cases hz : sigC x k q = 0
      · have e2 := HV.out.trans (mkV_ok (E.out.trans hz))
        simp only [Prod.mk.injEq] at e2
        obtain ⟨e3, e4, e5⟩ := e2
        subst e3
        rw [← e4, ← e5] at SR
        have HZ := hide hz
        rw [hz]
        clear e4 e5 hz hq HV MK
        go_wp2_with (fail)
        refine (SR.out _ HZ.out).mono ?_
        rintro e w3 ⟨rfl, hb3⟩
        have HB3 := hide (below_on HB0.out hb3)
        have HW3 := hide (blk_below HW0.out hb3)
        clear hb3
        obtain ⟨r0, r1, r2⟩ := cells3 HW3.out
        obtain ⟨g0, g1, g2⟩ := free3 HW3.out
        go_wp2
        rw [set3 HW3.out]
        go_meet
        exact ⟨by rw [E.out, HZ.out], below_setRow HB3.out (by omega) _, setRow_heap _ _ _ _ _ _ HW3.out⟩
      · have e2 := HV.out.trans (mkV_no (x := x) (k := k) (q := q) (fun e => hz (E.out.symm.trans e)))
        simp only [Prod.mk.injEq] at e2
        obtain ⟨e3, e4, e5⟩ := e2
        have HW1 : Hid ((w.alloc (.cells #[.int .i64 0, .int .i64 0, .int .i64 0] 26)).heap[w.heap.size]? = some (.cells #[.int .i64 vk, .int .i64 vp, .int .i64 va] 26)) := by
          rw [e3, e4, e5]; exact HW0.out
        clear e3 e4 e5 HW0 HV MK SR hq
        go_wp2
        go_meet
        exact ⟨by rw [E.out], HB0.out, HW1.out⟩
  case rest =>
  obtain ⟨rfl, hb1, hw1⟩ := hcut
  have HB1 := hide hb1
  have HW1 := hide hw1
  clear hb1 hw1 HB0 HW0
  obtain ⟨wa, hwa⟩ : ∃ wa, wa = wc := ⟨_, rfl⟩
  subst hwa
  go_wp2_with (fail)
  refine (MK.out _).mono ?_
  rintro e w2 ⟨rfl, hb2⟩
  have hb3 := below_on hb2 (below_new w2 (.cells #[.int .i64 vk, .int .i64 vp, .int .i64 va] 26))
  have HB3 := hide (below_on HB1.out hb3)
  have HW3 := hide (blk_below HW1.out hb3)
  have HV3 := hide (blk_new w2 (.cells #[.int .i64 vk, .int .i64 vp, .int .i64 va] 26))
  clear hb2 hb3 HB1 HW1 MK HV
  go_wp2_with (fail)
  refine (As.same_is _ _ _ rfl (HG.out.below HB3.out)).mono ?_
  rintro e w4 ⟨rfl, hb4⟩
  have HB4 := hide (below_on HB3.out hb4)
  have HW4 := hide (blk_below HW3.out hb4)
  have HV4 := hide (blk_below HV3.out hb4)
  clear hb4 HB3 HW3 HV3
  obtain ⟨r0, r1, r2⟩ := cells3 HW4.out
  obtain ⟨t0, t1, t2⟩ := cells3 HV4.out
  go_wp2_with (fail)
  refine (Ref.last_any root ad l n cap _ HN.out HM.out (HR.out.below HB4.out)).mono ?_
  rintro e w5 ⟨rfl, hb5⟩
  have HB5 := hide (below_on HB4.out hb5)
  clear hb5 HB4 HW4 HV4 r0 r1 r2 t0 t1 t2
  go_wp2_with (fail)
  refine (Cert.last_any root ad l n cap _ HN.out HM.out (HR.out.below HB5.out)).mono ?_
  rintro e w6 ⟨rfl, hb6⟩
  have HB6 := hide (below_on HB5.out hb6)
  clear hb6 HB5
  go_wp2_with (fail)
  refine (As.same_is _ _ _ rfl (HG.out.below HB6.out)).mono ?_
  rintro e w7 ⟨rfl, hb7⟩
  have HB7 := hide (below_on HB6.out hb7)
  clear hb7 HB6
  go_wp2
  go_ret
  exact ⟨by first | rfl | simp, HB7.out⟩
end Go.Proofs.YtlmalnbfmokpoacDoor.CertTells
