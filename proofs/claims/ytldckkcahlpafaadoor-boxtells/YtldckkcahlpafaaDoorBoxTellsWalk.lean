/-
  The walk of stairlaw1.BoxTells: it returns true, and memory that was there stays as it was.
-/
import Derived.Test.YtldckkcahlpafaaDoorBox1
import Derived.Test.YtldckkcahlpafaaDoorRef2
import Derived.Test.YtldckkcahlpafaaDoorAs
import Derived.BigQuiet
import Derived.WalkSmall
import Derived.Deep.DeepCutAuto
namespace Go.Proofs.YtldckkcahlpafaaDoor.BoxTells
open Go.ChangeShapes Go.WideShapes Go.ChangeAt Go.RowKit
open Go.Proofs.YtldckkcahlpafaaDoor.M Go.Proofs.YtldckkcahlpafaaDoor.Box
set_option linter.unusedVariables false

/-- What the walk carries: both banks and the box lie where they were laid, and all that was there is as it was; what is wanted lies beside them. -/
def Kept (w0 : World) (bc xc cc : Array Value) (W : World) : Prop :=
  Below w0.heap.size w0 W ∧ W.heap[w0.heap.size]? = some (.cells bc 23) ∧ W.heap[w0.heap.size + 1]? = some (.cells xc 41) ∧ W.heap[w0.heap.size + 1 + 1]? = some (.cells cc 23)
theorem Kept.below {w0 W W' : World} {bc xc cc : Array Value} (h : Kept w0 bc xc cc W) (hb : Below W.heap.size W W') : Kept w0 bc xc cc W' := ⟨below_on h.1 hb, blk_below h.2.1 hb, blk_below h.2.2.1 hb, blk_below h.2.2.2 hb⟩
theorem below_q {B : Nat} {a w : World} (h : Below B a w) : ∀ n, Below B a (w.drewN n)
  | 0 => h
  | n + 1 => Below.drew (below_q h n)
theorem Kept.quiet {w0 W : World} {bc xc cc : Array Value} (h : Kept w0 bc xc cc W) (n : Nat) : Kept w0 bc xc cc (W.drewN n) := ⟨below_q h.1 n, h.2.1, h.2.2.1, h.2.2.2⟩
theorem blk_n {W : World} {k : Nat} (h : W.heap.size = k) (o : Obj) : (W.alloc o).heap[k]? = some o := by subst h; exact blk_new _ _
theorem Kept.start (w : World) (bc xc cc : Array Value) : Kept w bc xc cc (((w.alloc (.cells bc 23)).alloc (.cells xc 41)).alloc (.cells cc 23)) :=
  ⟨below_on (below_on (below_new _ _) (below_new _ _)) (below_new _ _), blk_keep (blk_keep (blk_new _ _) _) _, blk_keep (blk_n (by simp) _) _, blk_n (by simp) _⟩
def Kep (w0 : World) (bc xc cc vc : Array Value) (W : World) : Prop := Kept w0 bc xc cc W ∧ W.heap[w0.heap.size + 1 + 1 + 1]? = some (.cells vc 41)
theorem Kep.below {w0 W W' : World} {bc xc cc vc : Array Value} (h : Kep w0 bc xc cc vc W) (hb : Below W.heap.size W W') : Kep w0 bc xc cc vc W' := ⟨h.1.below hb, blk_below h.2 hb⟩
theorem Kep.as {w0 W : World} {bc xc cc vc vd : Array Value} (h : Kep w0 bc xc cc vc W) (e : vd = vc) : Kep w0 bc xc cc vd W := e ▸ h
theorem Kep.set {w0 W : World} {bc xc cc vc vd : Array Value} (h : Kep w0 bc xc cc vc W) : Kep w0 bc xc cc vd (W.setRow (w0.heap.size + 1 + 1 + 1) vd) := by
  have hne : ∀ k o, W.heap[k]? = some o → k ≠ w0.heap.size + 1 + 1 + 1 → (W.setRow (w0.heap.size + 1 + 1 + 1) vd).heap[k]? = some o := fun k o hk hn => (setRow_other W _ k vd hn).trans hk
  exact ⟨⟨below_setRow h.1.1 (by omega) _, hne _ _ h.1.2.1 (by omega), hne _ _ h.1.2.2.1 (by omega), hne _ _ h.1.2.2.2 (by omega)⟩, setRow_heap _ _ _ _ _ _ h.2⟩

set_option maxRecDepth 20000 in
set_option maxHeartbeats 4000000 in
theorem walk (s mask : Int) (xs zs : List Int) (bc cc : Array Value) (x0 x1 x2 : Int) (w : World) (hbc : bc = bankC xs) (hcc : cc = bankC zs) (hx : xs.length = 8) (hz : zs.length = 8) (hg : As.Handle w) :
    Calls Tryd.prog 4 #[.int .i64 s, .int .i64 mask, .agg bc, .agg #[.int .i64 x0, .int .i64 x1, .int .i64 x2], .agg cc] w fun e w' => e = .returned (.bool true) ∧ Below w.heap.size w w' := by
  have HK0 : Hid (Kep w bc #[.int .i64 x0, .int .i64 x1, .int .i64 x2] cc #[.int .i64 0, .int .i64 0, .int .i64 0] ((((w.alloc (.cells bc 23)).alloc (.cells #[.int .i64 x0, .int .i64 x1, .int .i64 x2] 41)).alloc (.cells cc 23)).alloc (.cells #[.int .i64 0, .int .i64 0, .int .i64 0] 41))) :=
    ⟨(Kept.start w bc _ cc).below (below_new _ _), blk_n (by simp) _⟩
  have HS := hide (show bc.size = 8 by rw [hbc, bankC_size, hx])
  have HT := hide (show cc.size = 8 by rw [hcc, bankC_size, hz])
  have CL := hide (fun W => close_any s mask xs bc W hbc hx)
  have OP := hide (fun W => open_any (x0, x1, x2) zs cc W hcc hz)
  have DB := hide (fun W => Ref.digested_any xs bc mask W hbc hx)
  have DC := hide (fun W => Ref.digested_any zs cc x0 W hcc hz)
  have GB := hide (fun W (h : digE xs mask = 0) => Ref.digest_ok xs bc mask W hbc hx (digE_zero h).1 (digE_zero h).2)
  have GC := hide (fun W (h : digE zs x0 = 0) => Ref.digest_ok zs cc x0 W hcc hz (digE_zero h).1 (digE_zero h).2)
  have VB := hide (fun (h : digE xs mask = 0) => digV_ok (digE_zero h).1 (digE_zero h).2)
  have VC := hide (fun (h : digE zs x0 = 0) => digV_ok (digE_zero h).1 (digE_zero h).2)
  have T1 := hide (fun W => Ref.two_ok (digV xs mask) 1 W (digV_m _ _) (by decide))
  have T2 := hide (fun W => Ref.two_ok (digV xs mask) 2 W (digV_m _ _) (by decide))
  have U1 := hide (fun W => Ref.two_ok (digV zs x0) 1 W (digV_m _ _) (by decide))
  have U2 := hide (fun W => Ref.two_ok (digV zs x0) 2 W (digV_m _ _) (by decide))
  rw [show stp 7919 (digV xs mask) 1 = lidV xs mask from rfl] at T1
  rw [show stp 7919 (digV xs mask) 2 = padV xs mask from rfl] at T2
  rw [show stp 7919 (digV zs x0) 1 = lidV zs x0 from rfl] at U1
  rw [show stp 7919 (digV zs x0) 2 = padV zs x0 from rfl] at U2
  have HH := hide (fun (W : World) (h : Below w.heap.size w W) => hg.below h)
  clear hbc hcc hx hz hg
  obtain ⟨⟨v0, v1, v2⟩, hv⟩ : ∃ v : Int × Int × Int, v = clsV s mask xs := ⟨_, rfl⟩
  have HV := hide hv
  clear hv
  rw [← HV.out] at CL
  unfold boxC at CL OP
  simp only [] at CL OP
  go_enter Tryd.func4, Tryd.ntmps4
  go_upto_if 26 with (go_at_call 9; refine (Ref.is_any _ _).mono ?_; rintro e w' ⟨rfl, rfl⟩)
  go_cut [11, 12, 14, 26] (fun s11 _ _ _ w' => s11 = .int .i64 (clsE s mask xs) ∧ Hid (Kep w bc #[.int .i64 x0, .int .i64 x1, .int .i64 x2] cc #[.int .i64 v0, .int .i64 v1, .int .i64 v2] w'))
  case first =>
    cases hs : isM s with
    | false =>
      have e1 := clsE_no (m := mask) (xs := xs) hs
      have e2 := HV.out.trans (clsV_no (by rw [e1]; decide))
      simp only [Prod.mk.injEq] at e2
      obtain ⟨e3, e4, e5⟩ := e2
      have HK1 := hide (HK0.out.as (show (#[.int .i64 v0, .int .i64 v1, .int .i64 v2] : Array Value) = #[.int .i64 0, .int .i64 0, .int .i64 0] by rw [e3, e4, e5]))
      have E := hide e1
      clear hs e1 e3 e4 e5
      go_wp2
      go_meet
      exact ⟨by rw [E.out], HK1⟩
    | true =>
      have E := hide (clsE_ok (m := mask) (xs := xs) hs)
      obtain ⟨s0, s1⟩ := isM_iff.1 hs
      have HG0 := hide HK0.out.1.2.1
      clear hs
      go_wp2_with ((with_reducible refine Bank.wpl_load 7 ?_ ?_ _ ?_ _ _ HG0.out HS.out ?_); rfl; rfl; rfl)
      refine (DB.out _).mono ?_
      rintro e w1 ⟨rfl, hb1⟩
      have HK1 := hide (HK0.out.below hb1)
      clear hb1 HK0 HG0
      rcases digE_is xs mask with hE | hE
      · have e1 := E.out.trans hE
        have e2 := HV.out.trans (clsV_ok e1)
        simp only [Prod.mk.injEq] at e2
        obtain ⟨e3, e4, e5⟩ := e2
        have GX := hide (fun W => GB.out W hE)
        have E0 := hide e1
        have r := padV_r xs mask
        obtain ⟨p0, p1⟩ := r
        rw [← VB.out hE] at GX
        rw [hE]
        rw [← e4] at T1
        have HG1 := hide HK1.out.1.2.1
        have E3 := hide e3
        have E5 := hide e5
        clear e1 e3 e4 e5 E hE GB VB GC VC CL OP U1 U2 DC HV
        generalize padV xs mask = p at *
        generalize digV xs mask = d at *
        go_wp2_with ((with_reducible refine Bank.wpl_load 7 ?_ ?_ _ ?_ _ _ HG1.out HS.out ?_); rfl; rfl; rfl)
        refine (GX.out _).mono ?_
        rintro e w2 ⟨rfl, hb2⟩
        have HK2 := hide (HK1.out.below hb2)
        clear hb2 HK1 HG1
        obtain ⟨q0, q1, q2⟩ := tri_free HK2.out.2
        obtain ⟨r0, r1, r2⟩ := tri_cells HK2.out.2
        go_wp2_with (fail)
        refine (T1.out _).mono ?_
        rintro e w3 ⟨rfl, hw⟩
        rw [hw]
        clear hw
        go_wp2_with (fail)
        refine (T2.out _).mono ?_
        rintro e w4 ⟨rfl, hw⟩
        rw [hw]
        clear hw
        go_wp2
        rw [tri_set HK2.out.2]
        go_meet
        exact ⟨by rw [E0.out], by rw [E3.out, E5.out]; exact HK2.out.set⟩
      · have e1 := E.out.trans hE
        have e2 := HV.out.trans (clsV_no (by rw [e1]; decide))
        simp only [Prod.mk.injEq] at e2
        obtain ⟨e3, e4, e5⟩ := e2
        have E0 := hide e1
        have HK2 := hide (HK1.out.as (show (#[.int .i64 v0, .int .i64 v1, .int .i64 v2] : Array Value) = #[.int .i64 0, .int .i64 0, .int .i64 0] by rw [e3, e4, e5]))
        rw [hE]
        clear e1 e3 e4 e5 E hE
        go_wp2
        go_meet
        exact ⟨by rw [E0.out], HK2⟩
  case rest =>
  obtain ⟨rfl, HK1⟩ := hcut
  clear HK0 T1 T2 GB VB DB
  obtain ⟨wa, hwa⟩ : ∃ wa, wa = wc := ⟨_, rfl⟩
  subst hwa
  have HG1 := hide HK1.out.1.2.1
  go_wp2_with ((with_reducible refine Bank.wpl_load 7 ?_ ?_ _ ?_ _ _ HG1.out HS.out ?_); rfl; rfl; rfl)
  refine (CL.out _).mono ?_
  rintro e w2 ⟨rfl, hb2⟩
  have hb3 := below_on hb2 (below_new w2 (.cells #[.int .i64 v0, .int .i64 v1, .int .i64 v2] 41))
  have HK3 := hide (HK1.out.below hb3)
  have HV3 := hide (blk_new w2 (.cells #[.int .i64 v0, .int .i64 v1, .int .i64 v2] 41))
  clear hb2 hb3 HK1 HG1 CL HV
  go_wp2_with (fail)
  refine (As.same_is _ _ _ rfl (HH.out _ HK3.out.1.1)).mono ?_
  rintro e w4 ⟨rfl, hb4⟩
  have HK4 := hide (HK3.out.below hb4).1
  obtain ⟨r0, r1, r2⟩ := tri_cells (HK3.out.below hb4).2
  obtain ⟨t0, t1, t2⟩ := tri_cells (blk_below HV3.out hb4)
  obtain ⟨u0, u1, u2⟩ := tri_cells HK4.out.2.2.1
  clear hb4 HK3 HV3
  go_upto_region 15 with (go_at_call 9; refine (Ref.is_any _ _).mono ?_; rintro e w' ⟨rfl, rfl⟩)
  clear r0 r1 r2 t0 t1 t2
  have HG4 := hide HK4.out.2.2.2
  cases f1 : isM x1 with
  | false =>
    have e1 := opnE_form (x := (x0, x1, x2)) (xs := zs) (both_no f1)
    rw [e1, opnV_no (by rw [e1]; decide)] at OP
    clear e1
    have TG := hide HK4.out.2.2.2
    go_wp2_with ((with_reducible refine Bank.wpl_load 9 ?_ ?_ _ ?_ _ _ TG.out HT.out ?_); rfl; rfl; rfl)
    refine (OP.out _).mono ?_
    rintro e wY ⟨rfl, hbY⟩
    have HKY := hide (HK4.out.below hbY)
    clear hbY
    go_wp2_with (fail)
    refine (As.same_is _ _ _ rfl (HH.out _ HKY.out.1)).mono ?_
    rintro e wZ ⟨rfl, hbZ⟩
    have HKZ := hide (HKY.out.below hbZ)
    clear hbZ
    go_wp2
    go_ret
    exact ⟨by first | rfl | simp, HKZ.out.1⟩
  | true =>
    cases f2 : isM x2 with
    | false =>
      have e1 := opnE_form (x := (x0, x1, x2)) (xs := zs) (by rw [both_left f1]; exact f2)
      rw [e1, opnV_no (by rw [e1]; decide)] at OP
      clear e1
      have TG := hide HK4.out.2.2.2
      go_wp2_with ((with_reducible refine Bank.wpl_load 9 ?_ ?_ _ ?_ _ _ TG.out HT.out ?_); rfl; rfl; rfl)
      refine (OP.out _).mono ?_
      rintro e wY ⟨rfl, hbY⟩
      have HKY := hide (HK4.out.below hbY)
      clear hbY
      go_wp2_with (fail)
      refine (As.same_is _ _ _ rfl (HH.out _ HKY.out.1)).mono ?_
      rintro e wZ ⟨rfl, hbZ⟩
      have HKZ := hide (HKY.out.below hbZ)
      clear hbZ
      go_wp2
      go_ret
      exact ⟨by first | rfl | simp, HKZ.out.1⟩
    | true =>
      have hf : both x1 x2 = true := both_iff.2 ⟨f1, f2⟩
      obtain ⟨i20, i21⟩ := isM_iff.1 f2
      clear f1 f2
      go_wp2_with ((with_reducible refine Bank.wpl_load 9 ?_ ?_ _ ?_ _ _ HG4.out HT.out ?_); rfl; rfl; rfl)
      refine (DC.out _).mono ?_
      rintro e w5 ⟨rfl, hb5⟩
      have HK5 := hide (HK4.out.below hb5)
      clear hb5 HK4 HG4 u0 u1 u2 DC
      obtain ⟨u0, u1, u2⟩ := tri_cells HK5.out.2.2.1
      rcases digE_is zs x0 with hE | hE
      · have GX := hide (fun W => GC.out W hE)
        rw [← VC.out hE] at GX
        have r := padV_r zs x0
        obtain ⟨p0, p1⟩ := r
        have OE := hide (fun h => opnE_ok (x := (x0, x1, x2)) (xs := zs) hf hE h)
        have OF := hide (fun h => opnE_lid (x := (x0, x1, x2)) (xs := zs) hf hE h)
        have OV := hide (fun h => opnV_ok (x := (x0, x1, x2)) (xs := zs) h)
        have ON := hide (fun h => opnV_no (x := (x0, x1, x2)) (xs := zs) h)
        simp only [] at OE OF OV
        rw [hE]
        have HG5 := hide HK5.out.2.2.2
        clear hE hf GC VC
        go_wp2_with ((with_reducible refine Bank.wpl_load 9 ?_ ?_ _ ?_ _ _ HG5.out HT.out ?_); rfl; rfl; rfl)
        refine (GX.out _).mono ?_
        rintro e w6 ⟨rfl, hb6⟩
        have HK6 := hide (HK5.out.below hb6)
        clear hb6 HK5 HG5 GX u0 u1 u2
        obtain ⟨u0, u1, u2⟩ := tri_cells HK6.out.2.2.1
        by_cases hL : lidV zs x0 = x1
        · have e0 := OE.out hL
          rw [e0, OV.out e0] at OP
          rw [hL] at U1
          clear e0 hL OE OF OV ON
          generalize padV zs x0 = p at *
          generalize digV zs x0 = d at *
          go_wp2_with (fail)
          go_quiet ((go_at_call 10; exact Calls.quiet_of_same (U1.out _)))
          have HK7 := hide (HK6.out.quiet nq)
          clear HK6 u0 u1 u2
          generalize w6.drewN nq = w7 at HK7 ⊢
          obtain ⟨u0, u1, u2⟩ := tri_cells HK7.out.2.2.1
          go_wp2_with (fail)
          go_quiet ((go_at_call 10; exact Calls.quiet_of_same (U2.out _)))
          have HK8 := hide (HK7.out.quiet nq)
          clear HK7
          have TG := hide HK8.out.2.2.2
          go_wp2_with ((with_reducible refine Bank.wpl_load 9 ?_ ?_ _ ?_ _ _ TG.out HT.out ?_); rfl; rfl; rfl)
          refine (OP.out _).mono ?_
          rintro e wY ⟨rfl, hbY⟩
          have HKY := hide (HK8.out.below hbY)
          clear hbY
          go_wp2_with (fail)
          refine (As.same_is _ _ _ rfl (HH.out _ HKY.out.1)).mono ?_
          rintro e wZ ⟨rfl, hbZ⟩
          have HKZ := hide (HKY.out.below hbZ)
          clear hbZ
          go_wp2
          go_ret
          exact ⟨by first | rfl | simp, HKZ.out.1⟩
        · have e0 := OF.out hL
          rw [e0, ON.out (by rw [e0]; decide)] at OP
          clear e0 OE OF OV ON
          generalize lidV zs x0 = li at *
          generalize digV zs x0 = d at *
          go_wp2_with (fail)
          go_quiet ((go_at_call 10; exact Calls.quiet_of_same (U1.out _)))
          have HK7 := hide (HK6.out.quiet nq)
          clear HK6 u0 u1 u2
          obtain ⟨u0, u1, u2⟩ := tri_cells HK7.out.2.2.1
          have TG := hide HK7.out.2.2.2
          go_wp2_with ((with_reducible refine Bank.wpl_load 9 ?_ ?_ _ ?_ _ _ TG.out HT.out ?_); rfl; rfl; rfl)
          refine (OP.out _).mono ?_
          rintro e wY ⟨rfl, hbY⟩
          have HKY := hide (HK7.out.below hbY)
          clear hbY
          go_wp2_with (fail)
          refine (As.same_is _ _ _ rfl (HH.out _ HKY.out.1)).mono ?_
          rintro e wZ ⟨rfl, hbZ⟩
          have HKZ := hide (HKY.out.below hbZ)
          clear hbZ
          go_wp2
          go_ret
          exact ⟨by first | rfl | simp, HKZ.out.1⟩
      · have e1 := opnE_dig (x := (x0, x1, x2)) (xs := zs) hf (by rw [hE]; decide)
        rw [e1, opnV_no (by rw [e1]; decide)] at OP
        rw [hE]
        clear e1 hE hf
        have TG := hide HK5.out.2.2.2
        go_wp2_with ((with_reducible refine Bank.wpl_load 9 ?_ ?_ _ ?_ _ _ TG.out HT.out ?_); rfl; rfl; rfl)
        refine (OP.out _).mono ?_
        rintro e wY ⟨rfl, hbY⟩
        have HKY := hide (HK5.out.below hbY)
        clear hbY
        go_wp2_with (fail)
        refine (As.same_is _ _ _ rfl (HH.out _ HKY.out.1)).mono ?_
        rintro e wZ ⟨rfl, hbZ⟩
        have HKZ := hide (HKY.out.below hbZ)
        clear hbZ
        go_wp2
        go_ret
        exact ⟨by first | rfl | simp, HKZ.out.1⟩
end Go.Proofs.YtldckkcahlpafaaDoor.BoxTells
