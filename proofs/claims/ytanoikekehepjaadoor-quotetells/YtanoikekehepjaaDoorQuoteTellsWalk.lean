/-
  The walk of stairlaw1.QuoteTells: it returns true, and memory that was there stays as it was.
-/
import Derived.Test.YtanoikekehepjaaDoorQuote2
import Derived.Test.YtanoikekehepjaaDoorQuoteRef
import Derived.Test.YtanoikekehepjaaDoorRef2
import Derived.Test.YtanoikekehepjaaDoorAs
import Derived.BigQuiet
import Derived.WalkSmall
import Derived.Deep.DeepCutAuto
namespace Go.Proofs.YtanoikekehepjaaDoor.QuoteTells
open Go.ChangeShapes Go.WideShapes Go.ChangeAt Go.RowKit
open Go.Proofs.YtanoikekehepjaaDoor.M Go.Proofs.YtanoikekehepjaaDoor.Quote
set_option linter.unusedVariables false

/-- What the walk carries: both banks and the quote lie where they were laid, and all that was there is as it was; what is wanted lies beside them. -/
def Kept (w0 : World) (bc xc cc : Array Value) (W : World) : Prop :=
  Below w0.heap.size w0 W ∧ W.heap[w0.heap.size]? = some (.cells bc 23) ∧ W.heap[w0.heap.size + 1]? = some (.cells xc 27) ∧ W.heap[w0.heap.size + 1 + 1]? = some (.cells cc 23)
theorem Kept.below {w0 W W' : World} {bc xc cc : Array Value} (h : Kept w0 bc xc cc W) (hb : Below W.heap.size W W') : Kept w0 bc xc cc W' := ⟨below_on h.1 hb, blk_below h.2.1 hb, blk_below h.2.2.1 hb, blk_below h.2.2.2 hb⟩
theorem Kept.drew {w0 W : World} {bc xc cc : Array Value} (h : Kept w0 bc xc cc W) : Kept w0 bc xc cc W.drew := ⟨Below.drew h.1, h.2⟩
theorem blk_n {W : World} {k : Nat} (h : W.heap.size = k) (o : Obj) : (W.alloc o).heap[k]? = some o := by subst h; exact blk_new _ _
theorem Kept.start (w : World) (bc xc cc : Array Value) : Kept w bc xc cc (((w.alloc (.cells bc 23)).alloc (.cells xc 27)).alloc (.cells cc 23)) :=
  ⟨below_on (below_on (below_new _ _) (below_new _ _)) (below_new _ _), blk_keep (blk_keep (blk_new _ _) _) _, blk_keep (blk_n (by simp) _) _, blk_n (by simp) _⟩
def Kep (w0 : World) (bc xc cc vc : Array Value) (W : World) : Prop := Kept w0 bc xc cc W ∧ W.heap[w0.heap.size + 1 + 1 + 1]? = some (.cells vc 27)
theorem Kep.below {w0 W W' : World} {bc xc cc vc : Array Value} (h : Kep w0 bc xc cc vc W) (hb : Below W.heap.size W W') : Kep w0 bc xc cc vc W' := ⟨h.1.below hb, blk_below h.2 hb⟩
theorem Kep.as {w0 W : World} {bc xc cc vc vd : Array Value} (h : Kep w0 bc xc cc vc W) (e : vd = vc) : Kep w0 bc xc cc vd W := e ▸ h
theorem Kep.set {w0 W : World} {bc xc cc vc vd : Array Value} (h : Kep w0 bc xc cc vc W) : Kep w0 bc xc cc vd (W.setRow (w0.heap.size + 1 + 1 + 1) vd) := by
  have hne : ∀ k o, W.heap[k]? = some o → k ≠ w0.heap.size + 1 + 1 + 1 → (W.setRow (w0.heap.size + 1 + 1 + 1) vd).heap[k]? = some o := fun k o hk hn => (setRow_other W _ k vd hn).trans hk
  exact ⟨⟨below_setRow h.1.1 (by omega) _, hne _ _ h.1.2.1 (by omega), hne _ _ h.1.2.2.1 (by omega), hne _ _ h.1.2.2.2 (by omega)⟩, setRow_heap _ _ _ _ _ _ h.2⟩

theorem below_q {B : Nat} {a w : World} (h : Below B a w) : ∀ n, Below B a (w.drewN n)
  | 0 => h
  | n + 1 => Below.drew (below_q h n)
theorem Kept.quiet {w0 W : World} {bc xc cc : Array Value} (h : Kept w0 bc xc cc W) (n : Nat) : Kept w0 bc xc cc (W.drewN n) := ⟨below_q h.1 n, h.2.1, h.2.2.1, h.2.2.2⟩
theorem kept_S {w0 W : World} {bc cc : Array Value} {q0 q1 q2 q3 q4 : Int} (h : Kept w0 bc #[.int .i64 q0, .int .i64 q1, .int .i64 q2, .int .i64 q3, .int .i64 q4] cc W) :
    W.cell? ⟨w0.heap.size + 1, 0, none⟩ = some (.int .i64 q0) ∧ W.cell? ⟨w0.heap.size + 1, 1, none⟩ = some (.int .i64 q1) ∧ W.cell? ⟨w0.heap.size + 1, 2, none⟩ = some (.int .i64 q2) ∧ W.cell? ⟨w0.heap.size + 1, 3, none⟩ = some (.int .i64 q3) ∧ W.cell? ⟨w0.heap.size + 1, 4, none⟩ = some (.int .i64 q4) ∧ Kept w0 bc #[.int .i64 q0, .int .i64 q1, .int .i64 q2, .int .i64 q3, .int .i64 q4] cc W := by
  obtain ⟨r0, r1, r2, r3, r4⟩ := quin_cells h.2.2.1
  exact ⟨r0, r1, r2, r3, r4, h⟩

theorem eight {xs : List Int} (h : xs.length = 8) : ∃ z0 z1 z2 z3 z4 z5 z6 z7 : Int, bankC xs = #[.int .i64 z0, .int .i64 z1, .int .i64 z2, .int .i64 z3, .int .i64 z4, .int .i64 z5, .int .i64 z6, .int .i64 z7] := by
  match xs, h with
  | [z0, z1, z2, z3, z4, z5, z6, z7], _ => exact ⟨z0, z1, z2, z3, z4, z5, z6, z7, rfl⟩
theorem kept_L {w0 W : World} {bc : Array Value} {q0 q1 q2 q3 q4 z0 z1 z2 z3 z4 z5 z6 z7 : Int} (h : Kept w0 bc #[.int .i64 q0, .int .i64 q1, .int .i64 q2, .int .i64 q3, .int .i64 q4] #[.int .i64 z0, .int .i64 z1, .int .i64 z2, .int .i64 z3, .int .i64 z4, .int .i64 z5, .int .i64 z6, .int .i64 z7] W) :
    W.cell? ⟨w0.heap.size + 1, 0, none⟩ = some (.int .i64 q0) ∧ W.cell? ⟨w0.heap.size + 1, 1, none⟩ = some (.int .i64 q1) ∧ W.cell? ⟨w0.heap.size + 1, 2, none⟩ = some (.int .i64 q2) ∧ W.cell? ⟨w0.heap.size + 1 + 1, 0, none⟩ = some (.int .i64 z0) ∧ W.cell? ⟨w0.heap.size + 1 + 1, 1, none⟩ = some (.int .i64 z1) ∧ W.cell? ⟨w0.heap.size + 1 + 1, 2, none⟩ = some (.int .i64 z2) ∧ W.cell? ⟨w0.heap.size + 1 + 1, 3, none⟩ = some (.int .i64 z3) ∧ W.cell? ⟨w0.heap.size + 1 + 1, 4, none⟩ = some (.int .i64 z4) ∧ W.cell? ⟨w0.heap.size + 1 + 1, 5, none⟩ = some (.int .i64 z5) ∧ W.cell? ⟨w0.heap.size + 1 + 1, 6, none⟩ = some (.int .i64 z6) ∧ W.cell? ⟨w0.heap.size + 1 + 1, 7, none⟩ = some (.int .i64 z7) ∧ Kept w0 bc #[.int .i64 q0, .int .i64 q1, .int .i64 q2, .int .i64 q3, .int .i64 q4] #[.int .i64 z0, .int .i64 z1, .int .i64 z2, .int .i64 z3, .int .i64 z4, .int .i64 z5, .int .i64 z6, .int .i64 z7] W := by
  obtain ⟨r0, r1, r2, r3, r4⟩ := quin_cells h.2.2.1
  refine ⟨r0, r1, r2, ?_, ?_, ?_, ?_, ?_, ?_, ?_, ?_, h⟩ <;> rw [cell_of_row W _ _ _ _ _ h.2.2.2] <;> rfl

set_option maxRecDepth 20000 in
set_option maxHeartbeats 4000000 in
theorem walk (x k n mask : Int) (xs zs : List Int) (bc cc : Array Value) (pub q0 q1 q2 q3 q4 nn : Int) (w : World) (hbc : bc = bankC xs) (hcc : cc = bankC zs) (hx : xs.length = 8) (hz : zs.length = 8) (hg : As.Handle w) :
    Calls Tryd.prog 3 #[.int .i64 x, .int .i64 k, .int .i64 n, .int .i64 mask, .agg bc, .int .i64 pub, .agg #[.int .i64 q0, .int .i64 q1, .int .i64 q2, .int .i64 q3, .int .i64 q4], .int .i64 nn, .agg cc] w fun e w' => e = .returned (.bool true) ∧ Below w.heap.size w w' := by
  have HK0 : Hid (Kep w bc #[.int .i64 q0, .int .i64 q1, .int .i64 q2, .int .i64 q3, .int .i64 q4] cc #[.int .i64 0, .int .i64 0, .int .i64 0, .int .i64 0, .int .i64 0] ((((w.alloc (.cells bc 23)).alloc (.cells #[.int .i64 q0, .int .i64 q1, .int .i64 q2, .int .i64 q3, .int .i64 q4] 27)).alloc (.cells cc 23)).alloc (.cells #[.int .i64 0, .int .i64 0, .int .i64 0, .int .i64 0, .int .i64 0] 27))) :=
    ⟨(Kept.start w bc _ cc).below (below_new _ _), blk_n (by simp) _⟩
  have HS := hide (show bc.size = 8 by rw [hbc, bankC_size, hx])
  have HT := hide (show cc.size = 8 by rw [hcc, bankC_size, hz])
  have MK := hide (fun W => make_any x k n mask xs bc W hbc hx)
  have CK := hide (fun W => check_any pub (q0, q1, q2, q3, q4) nn W)
  have RQ := hide (fun W => Ref.quote_any pub (q0, q1, q2, q3, q4) nn W)
  have TL := hide (fun W => tells_any (q0, q1, q2, q3, q4) zs cc W hcc hz)
  have DB := hide (fun W => Ref.digested_any xs bc mask W hbc hx)
  have DC := hide (fun W => Ref.digested_any zs cc q1 W hcc hz)
  have GB := hide (fun W (h : digE xs mask = 0) => Ref.digest_ok xs bc mask W hbc hx (digE_zero h).1 (digE_zero h).2)
  have GC := hide (fun W (h : digE zs q1 = 0) => Ref.digest_ok zs cc q1 W hcc hz (digE_zero h).1 (digE_zero h).2)
  have VB := hide (fun (h : digE xs mask = 0) => digV_ok (digE_zero h).1 (digE_zero h).2)
  have VC := hide (fun (h : digE zs q1 = 0) => digV_ok (digE_zero h).1 (digE_zero h).2)
  have HH := hide (fun (W : World) (h : Below w.heap.size w W) => hg.below h)
  have HCZ := hide (show ∃ z0 z1 z2 z3 z4 z5 z6 z7 : Int, cc = #[.int .i64 z0, .int .i64 z1, .int .i64 z2, .int .i64 z3, .int .i64 z4, .int .i64 z5, .int .i64 z6, .int .i64 z7] by rw [hcc]; exact eight hz)
  clear hbc hcc hx hz hg
  obtain ⟨⟨v0, v1, v2, v3, v4⟩, hv⟩ : ∃ v, v = quoV x k n mask xs := ⟨_, rfl⟩
  have HV := hide hv
  clear hv
  rw [← HV.out] at MK
  unfold quoC at MK CK RQ TL
  simp only [] at MK CK RQ TL
  go_enter Tryd.func3, Tryd.ntmps3
  go_upto_if 32 with (go_at_call 5; refine (Ref.is_any _ _).mono ?_; rintro e w' ⟨rfl, rfl⟩)
  go_cut [19, 20, 22, 32] (fun s19 _ _ _ w' => s19 = .int .i64 (quoE x k n mask xs) ∧ Hid (Kep w bc #[.int .i64 q0, .int .i64 q1, .int .i64 q2, .int .i64 q3, .int .i64 q4] cc #[.int .i64 v0, .int .i64 v1, .int .i64 v2, .int .i64 v3, .int .i64 v4] w'))
  case first =>
    cases hn : isM n with
    | false =>
      have e1 := quoE_no (x := x) (k := k) (m := mask) (xs := xs) hn
      have e2 := HV.out.trans (quoV_no (by rw [e1]; decide))
      simp only [Prod.mk.injEq] at e2
      obtain ⟨e3, e4, e5, e6, e7⟩ := e2
      have HK1 := hide (HK0.out.as (show (#[.int .i64 v0, .int .i64 v1, .int .i64 v2, .int .i64 v3, .int .i64 v4] : Array Value) = #[.int .i64 0, .int .i64 0, .int .i64 0, .int .i64 0, .int .i64 0] by rw [e3, e4, e5, e6, e7]))
      have E := hide e1
      clear hn e1 e3 e4 e5 e6 e7
      go_wp2
      go_meet
      exact ⟨by rw [E.out], HK1⟩
    | true =>
      have HG0 := hide HK0.out.1.2.1
      have QD := hide (fun h => quoE_dig (x := x) (k := k) (m := mask) (xs := xs) hn h)
      have QG := hide (fun h => quoE_go (x := x) (k := k) (m := mask) (xs := xs) hn h)
      have HN := hide hn
      clear hn
      go_wp2_with ((with_reducible refine Bank.wpl_load 13 ?_ ?_ _ ?_ _ _ HG0.out HS.out ?_); rfl; rfl; rfl)
      refine (DB.out _).mono ?_
      rintro e w1 ⟨rfl, hb1⟩
      have HK1 := hide (HK0.out.below hb1)
      clear hb1 HK0 HG0
      rcases digE_is xs mask with hE | hE
      · have eg := QG.out hE
        have hm := (digE_zero hE).2
        rw [hE]
        go_wp2_with (fail)
        refine (Ref.signed_any x k 0 _).mono ?_
        rintro e w2 ⟨rfl, hw⟩
        rw [hw]
        clear hw
        rw [sigC_any (m := 0) (m' := quoM n mask (digV xs mask)) (by decide) (quoM_m _ _ _), ← eg]
        by_cases hq : quoE x k n mask xs = 0
        · obtain ⟨_, _, hsx, hsk⟩ := quoE_zero hq
          have e2 := HV.out.trans (quoV_ok hq)
          simp only [Prod.mk.injEq] at e2
          obtain ⟨e3, e4, e5, e6, e7⟩ := e2
          have GX := hide (fun W => GB.out W hE)
          rw [← VB.out hE] at GX
          have AL := hide (fun W b cap (h : Row W (some ⟨b, 0, none⟩) [n, mask, digV xs mask]) => Ref.all_ok (some ⟨b, 0, none⟩) [n, mask, digV xs mask] 3 cap W rfl (by decide) h (quo_ok HN.out hm (digV_m xs mask)))
          rw [show allFrom 0 [n, mask, digV xs mask] = quoM n mask (digV xs mask) from rfl] at AL
          have SN := hide (fun W => Ref.sign_ok x k (quoM n mask (digV xs mask)) W hsx hsk (quoM_m _ _ _))
          unfold sealC at SN
          rw [← e6, ← e7] at SN
          have E0 := hide hq
          have E3 := hide e3
          have E4 := hide e4
          have E5 := hide e5
          have HG1 := hide HK1.out.1.2.1
          rw [hq]
          clear hq eg hm hsx hsk e3 e4 e5 e6 e7 hE GB VB GC VC MK CK RQ TL DB DC HV QD QG
          generalize quoM n mask (digV xs mask) = qm at *
          generalize digV xs mask = d at *
          go_wp2_with ((with_reducible refine Bank.wpl_load 13 ?_ ?_ _ ?_ _ _ HG1.out HS.out ?_); rfl; rfl; rfl)
          refine (GX.out _).mono ?_
          rintro e w3 ⟨rfl, hb3⟩
          have HK3 := hide ((HK1.out.below hb3).below (below_new w3 (.cells #[.int .i64 n, .int .i64 mask, .int .i64 d] 3)))
          have HW3 := hide (Row.three (blk_new w3 (.cells #[.int .i64 n, .int .i64 mask, .int .i64 d] 3)))
          clear hb3 HK1 HG1 GX
          go_wp2_with (fail)
          refine (AL.out _ _ _ HW3.out).mono ?_
          rintro e w4 ⟨rfl, hw⟩
          rw [hw]
          clear hw HW3 AL
          go_wp2_with (fail)
          refine (SN.out _).mono ?_
          rintro e w5 ⟨rfl, hb5⟩
          have HK5 := hide (HK3.out.below hb5)
          clear hb5 HK3 SN
          obtain ⟨g0, g1, g2, g3, g4⟩ := quin_free HK5.out.2
          obtain ⟨r0, r1, r2, r3, r4⟩ := quin_cells HK5.out.2
          go_wp2
          rw [quin_set HK5.out.2]
          go_meet
          exact ⟨by rw [E0.out], by rw [E3.out, E4.out, E5.out]; exact HK5.out.set⟩
        · have e2 := HV.out.trans (quoV_no hq)
          simp only [Prod.mk.injEq] at e2
          obtain ⟨e3, e4, e5, e6, e7⟩ := e2
          have HK2 := hide (HK1.out.as (show (#[.int .i64 v0, .int .i64 v1, .int .i64 v2, .int .i64 v3, .int .i64 v4] : Array Value) = #[.int .i64 0, .int .i64 0, .int .i64 0, .int .i64 0, .int .i64 0] by rw [e3, e4, e5, e6, e7]))
          clear e3 e4 e5 e6 e7 eg hm hE
          generalize quoE x k n mask xs = qe at *
          go_wp2
          go_meet
          exact ⟨rfl, HK2⟩
      · have e1 := QD.out (by rw [hE]; decide)
        have e2 := HV.out.trans (quoV_no (by rw [e1]; decide))
        simp only [Prod.mk.injEq] at e2
        obtain ⟨e3, e4, e5, e6, e7⟩ := e2
        have HK2 := hide (HK1.out.as (show (#[.int .i64 v0, .int .i64 v1, .int .i64 v2, .int .i64 v3, .int .i64 v4] : Array Value) = #[.int .i64 0, .int .i64 0, .int .i64 0, .int .i64 0, .int .i64 0] by rw [e3, e4, e5, e6, e7]))
        have E0 := hide e1
        rw [hE]
        clear e1 e3 e4 e5 e6 e7 hE
        go_wp2
        go_meet
        exact ⟨by rw [E0.out], HK2⟩
  case rest =>
  obtain ⟨rfl, HK1⟩ := hcut
  clear HK0 GB VB DB
  obtain ⟨wa, hwa⟩ : ∃ wa, wa = wc := ⟨_, rfl⟩
  subst hwa
  have HG1 := hide HK1.out.1.2.1
  go_wp2_with ((with_reducible refine Bank.wpl_load 13 ?_ ?_ _ ?_ _ _ HG1.out HS.out ?_); rfl; rfl; rfl)
  refine (MK.out _).mono ?_
  rintro e w2 ⟨rfl, hb2⟩
  have hb3 := below_on hb2 (below_new w2 (.cells #[.int .i64 v0, .int .i64 v1, .int .i64 v2, .int .i64 v3, .int .i64 v4] 27))
  have HK3 := hide (HK1.out.below hb3)
  have HV3 := hide (blk_new w2 (.cells #[.int .i64 v0, .int .i64 v1, .int .i64 v2, .int .i64 v3, .int .i64 v4] 27))
  clear hb2 hb3 HK1 HG1 MK HV
  go_wp2_with (fail)
  refine (As.same_is _ _ _ rfl (HH.out _ HK3.out.1.1)).mono ?_
  rintro e w4 ⟨rfl, hb4⟩
  have hK4 := (HK3.out.below hb4).1
  obtain ⟨r0, r1, r2, r3, r4⟩ := quin_cells (HK3.out.below hb4).2
  obtain ⟨t0, t1, t2, t3, t4⟩ := quin_cells (blk_below HV3.out hb4)
  clear hb4 HK3 HV3
  go_upto_region 13 with (fail)
  clear r0 r1 r2 r3 r4 t0 t1 t2 t3 t4
  obtain ⟨g0, g1, g2, g3, g4, _⟩ := kept_S hK4
  have CE := hide (show chqE pub (q0, q1, q2, q3, q4) nn = chqE pub (q0, q1, q2, q3, q4) nn from rfl)
  generalize chqE pub (q0, q1, q2, q3, q4) nn = ce at *
  go_cut [26] (fun s26 w' => s26 = .bool true ∧ Kept w bc #[.int .i64 q0, .int .i64 q1, .int .i64 q2, .int .i64 q3, .int .i64 q4] cc w')
  case first =>
    go_region_held3 (fun w' => w'.cell? ⟨w.heap.size + 1, 0, none⟩ = some (.int .i64 q0) ∧ w'.cell? ⟨w.heap.size + 1, 1, none⟩ = some (.int .i64 q1) ∧ w'.cell? ⟨w.heap.size + 1, 2, none⟩ = some (.int .i64 q2) ∧ w'.cell? ⟨w.heap.size + 1, 3, none⟩ = some (.int .i64 q3) ∧ w'.cell? ⟨w.heap.size + 1, 4, none⟩ = some (.int .i64 q4) ∧ Kept w bc #[.int .i64 q0, .int .i64 q1, .int .i64 q2, .int .i64 q3, .int .i64 q4] cc w')
      (exact kept_S (by repeat (first | assumption | apply Kept.drew)))
      (first
        | (go_at_call 13; refine (CK.out _).mono ?_; rintro e w5 ⟨rfl, hb5⟩; have h5 : Kept w bc #[.int .i64 q0, .int .i64 q1, .int .i64 q2, .int .i64 q3, .int .i64 q4] cc w5 := Kept.below (by repeat (first | assumption | apply Kept.drew)) hb5; clear hb5; obtain ⟨m0, m1, m2, m3, m4, _⟩ := kept_S h5)
        | (go_at_call 14; refine (RQ.out _).mono ?_; rintro e w6 ⟨rfl, hb6⟩; have h6 : Kept w bc #[.int .i64 q0, .int .i64 q1, .int .i64 q2, .int .i64 q3, .int .i64 q4] cc w6 := Kept.below (by repeat (first | assumption | apply Kept.drew)) hb6; clear hb6; obtain ⟨n0, n1, n2, n3, n4, _⟩ := kept_S h6)
        | (go_at_call 12; refine (As.same_is _ _ _ rfl (HH.out _ (show Kept w bc #[.int .i64 q0, .int .i64 q1, .int .i64 q2, .int .i64 q3, .int .i64 q4] cc _ by repeat (first | assumption | apply Kept.drew)).1)).mono ?_; rintro e w7 ⟨rfl, hb7⟩; have h7 : Kept w bc #[.int .i64 q0, .int .i64 q1, .int .i64 q2, .int .i64 q3, .int .i64 q4] cc w7 := Kept.below (by repeat (first | assumption | apply Kept.drew)) hb7; clear hb7; obtain ⟨o0, o1, o2, o3, o4, _⟩ := kept_S h7))
    all_goals
      go_wp2
      go_meet
      exact ⟨rfl, by repeat (first | assumption | apply Kept.drew)⟩
  case rest =>
  obtain ⟨rfl, hK5⟩ := hcut
  clear g0 g1 g2 g3 g4 hK4 CK RQ CE
  obtain ⟨g0, g1, g2, g3, g4, _⟩ := kept_S hK5
  cases hq : isM q2 with
  | false =>
    have e1 := telE_no (q := (q0, q1, q2, q3, q4)) (xs := zs) hq
    rw [e1, telB_no (by rw [e1]; decide)] at TL
    clear e1
    go_upto_region 18 with (go_at_call 5; refine (Ref.is_any _ _).mono ?_; rintro e w' ⟨rfl, rfl⟩)
    go_quiet (fail)
    have HK6 := hide (hK5.quiet nq)
    clear hK5 g0 g1 g2 g3 g4
    have TG := hide HK6.out.2.2.2
    obtain ⟨y0, y1, y2, y3, y4, _⟩ := kept_S HK6.out
    go_wp2_with ((with_reducible refine Bank.wpl_load 17 ?_ ?_ _ ?_ _ _ TG.out HT.out ?_); rfl; rfl; rfl)
    refine (TL.out _).mono ?_
    rintro e wY ⟨rfl, hbY⟩
    have HKY := hide (HK6.out.below hbY)
    clear hbY y0 y1 y2 y3 y4
    go_wp2_with (fail)
    refine (As.same_is _ _ _ rfl (HH.out _ HKY.out.1)).mono ?_
    rintro e wZ ⟨rfl, hbZ⟩
    have HKZ := hide (HKY.out.below hbZ)
    clear hbZ
    go_wp2
    go_ret
    exact ⟨by first | rfl | simp, HKZ.out.1⟩
  | true =>
    have TE := telE_ok (q := (q0, q1, q2, q3, q4)) (xs := zs) hq
    simp only [] at TE
    have HC5 := hide hK5.2.2.2
    go_wp2_with (first | (go_at_call 5; refine (Ref.is_any _ _).mono ?_; rintro e w' ⟨rfl, rfl⟩) | ((with_reducible refine Bank.wpl_load 17 ?_ ?_ _ ?_ _ _ HC5.out HT.out ?_); rfl; rfl; rfl))
    refine (DC.out _).mono ?_
    rintro e w6 ⟨rfl, hb6⟩
    have hK6 := hK5.below hb6
    clear hb6 hK5 g0 g1 g2 g3 g4 HC5
    obtain ⟨g0, g1, g2, g3, g4, _⟩ := kept_S hK6
    rcases digE_is zs q1 with hE | hE
    · have e1 := TE.trans hE
      have e2 := telB_ok e1
      simp only [] at e2
      rw [e1, e2] at TL
      have GX := hide (fun W => GC.out W hE)
      rw [← VC.out hE] at GX
      rw [hE]
      clear e1 e2 TE hE GC VC DC
      generalize digV zs q1 = d at *
      go_upto_region 18 with (fail)
      go_cut [27] (fun s27 w' => s27 = .bool (decide (d = q2)) ∧ Kept w bc #[.int .i64 q0, .int .i64 q1, .int .i64 q2, .int .i64 q3, .int .i64 q4] cc w')
      case first =>
        obtain ⟨z0, z1, z2, z3, z4, z5, z6, z7, rfl⟩ := HCZ.out
        obtain ⟨_, _, _, l0, l1, l2, l3, l4, l5, l6, l7, _⟩ := kept_L hK6
        go_region_held3 (fun w' => w'.cell? ⟨w.heap.size + 1, 0, none⟩ = some (.int .i64 q0) ∧ w'.cell? ⟨w.heap.size + 1, 1, none⟩ = some (.int .i64 q1) ∧ w'.cell? ⟨w.heap.size + 1, 2, none⟩ = some (.int .i64 q2) ∧ w'.cell? ⟨w.heap.size + 1 + 1, 0, none⟩ = some (.int .i64 z0) ∧ w'.cell? ⟨w.heap.size + 1 + 1, 1, none⟩ = some (.int .i64 z1) ∧ w'.cell? ⟨w.heap.size + 1 + 1, 2, none⟩ = some (.int .i64 z2) ∧ w'.cell? ⟨w.heap.size + 1 + 1, 3, none⟩ = some (.int .i64 z3) ∧ w'.cell? ⟨w.heap.size + 1 + 1, 4, none⟩ = some (.int .i64 z4) ∧ w'.cell? ⟨w.heap.size + 1 + 1, 5, none⟩ = some (.int .i64 z5) ∧ w'.cell? ⟨w.heap.size + 1 + 1, 6, none⟩ = some (.int .i64 z6) ∧ w'.cell? ⟨w.heap.size + 1 + 1, 7, none⟩ = some (.int .i64 z7) ∧ Kept w bc #[.int .i64 q0, .int .i64 q1, .int .i64 q2, .int .i64 q3, .int .i64 q4] #[.int .i64 z0, .int .i64 z1, .int .i64 z2, .int .i64 z3, .int .i64 z4, .int .i64 z5, .int .i64 z6, .int .i64 z7] w')
          (exact kept_L (by repeat (first | assumption | apply Kept.drew)))
          (first
            | (go_at_call 8; refine (GX.out _).mono ?_; rintro e w7 ⟨rfl, hb7⟩; have h7 : Kept w bc #[.int .i64 q0, .int .i64 q1, .int .i64 q2, .int .i64 q3, .int .i64 q4] #[.int .i64 z0, .int .i64 z1, .int .i64 z2, .int .i64 z3, .int .i64 z4, .int .i64 z5, .int .i64 z6, .int .i64 z7] w7 := Kept.below (by repeat (first | assumption | apply Kept.drew)) hb7; clear hb7; obtain ⟨m0, m1, m2, _, _, _, _, _, _, _, _, _⟩ := kept_L h7))
        all_goals
          go_wp2
          go_meet
          exact ⟨by first | rfl | simp, by repeat (first | assumption | apply Kept.drew)⟩
      case rest =>
      obtain ⟨rfl, hK7⟩ := hcut
      have HK7 := hide hK7
      clear hK7 hK6 g0 g1 g2 g3 g4
      have TG := hide HK7.out.2.2.2
      obtain ⟨y0, y1, y2, y3, y4, _⟩ := kept_S HK7.out
      go_wp2_with ((with_reducible refine Bank.wpl_load 17 ?_ ?_ _ ?_ _ _ TG.out HT.out ?_); rfl; rfl; rfl)
      refine (TL.out _).mono ?_
      rintro e wY ⟨rfl, hbY⟩
      have HKY := hide (HK7.out.below hbY)
      clear hbY y0 y1 y2 y3 y4
      go_wp2_with (fail)
      refine (As.same_is _ _ _ rfl (HH.out _ HKY.out.1)).mono ?_
      rintro e wZ ⟨rfl, hbZ⟩
      have HKZ := hide (HKY.out.below hbZ)
      clear hbZ
      go_wp2
      go_ret
      exact ⟨by first | rfl | simp, HKZ.out.1⟩
    · have e1 := TE.trans hE
      rw [e1, telB_no (by rw [e1]; decide)] at TL
      rw [hE]
      clear e1 TE hE
      go_upto_region 18 with (fail)
      go_quiet (fail)
      have HK7 := hide (hK6.quiet nq)
      clear hK6 g0 g1 g2 g3 g4
      have TG := hide HK7.out.2.2.2
      obtain ⟨y0, y1, y2, y3, y4, _⟩ := kept_S HK7.out
      go_wp2_with ((with_reducible refine Bank.wpl_load 17 ?_ ?_ _ ?_ _ _ TG.out HT.out ?_); rfl; rfl; rfl)
      refine (TL.out _).mono ?_
      rintro e wY ⟨rfl, hbY⟩
      have HKY := hide (HK7.out.below hbY)
      clear hbY y0 y1 y2 y3 y4
      go_wp2_with (fail)
      refine (As.same_is _ _ _ rfl (HH.out _ HKY.out.1)).mono ?_
      rintro e wZ ⟨rfl, hbZ⟩
      have HKZ := hide (HKY.out.below hbZ)
      clear hbZ
      go_wp2
      go_ret
      exact ⟨by first | rfl | simp, HKZ.out.1⟩
end Go.Proofs.YtanoikekehepjaaDoor.QuoteTells
