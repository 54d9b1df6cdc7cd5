/-
  The walk of stairlaw1.QuoteFresh: it returns true, and memory that was there stays as it was.
-/
import Derived.Test.YtanoikekehepjaaDoorQuote2
import Derived.Test.YtanoikekehepjaaDoorBank3
import Derived.Test.YtanoikekehepjaaDoorAs
import Derived.BigQuiet
import Derived.WalkSmall
import Derived.Deep.DeepCutAuto
namespace Go.Proofs.YtanoikekehepjaaDoor.QuoteFresh
open Go.ChangeShapes Go.WideShapes Go.ChangeAt Go.RowKit
open Go.Proofs.YtanoikekehepjaaDoor.M Go.Proofs.YtanoikekehepjaaDoor.Quote
set_option linter.unusedVariables false

/-- What the walk carries: both banks lie where they were laid, and all that was there is as it was; a quote beside them. -/
def Kept (w0 : World) (bc cc : Array Value) (W : World) : Prop :=
  Below w0.heap.size w0 W ∧ W.heap[w0.heap.size]? = some (.cells bc 23) ∧ W.heap[w0.heap.size + 1]? = some (.cells cc 23)
theorem Kept.below {w0 W W' : World} {bc cc : Array Value} (h : Kept w0 bc cc W) (hb : Below W.heap.size W W') : Kept w0 bc cc W' := ⟨below_on h.1 hb, blk_below h.2.1 hb, blk_below h.2.2 hb⟩
theorem Kept.start (w : World) (bc cc : Array Value) : Kept w bc cc ((w.alloc (.cells bc 23)).alloc (.cells cc 23)) :=
  ⟨below_on (below_new _ _) (below_new _ _), blk_keep (blk_new _ _) _, blk_two⟩
def Kep (w0 : World) (bc cc : Array Value) (B : Nat) (vc : Array Value) (W : World) : Prop := Kept w0 bc cc W ∧ W.heap[B]? = some (.cells vc 27)
theorem Kep.below {w0 W W' : World} {bc cc vc : Array Value} {B : Nat} (h : Kep w0 bc cc B vc W) (hb : Below W.heap.size W W') : Kep w0 bc cc B vc W' := ⟨h.1.below hb, blk_below h.2 hb⟩
theorem fact_q : quoE 5 7 9 1 noBank = 0 := by
  rw [quoE_go (by decide) (digE_ok (by decide) (by decide))]
  exact sigC_ok (by decide) (by decide) (quoM_m _ _ _)
theorem fact_v : ∃ d p a : Int, quoV 5 7 9 1 noBank = (9, 1, d, p, a) := ⟨_, _, _, quoV_ok fact_q⟩
theorem same_dig {xs ys : List Int} {m : Int} (h : sameV xs ys m = true) : digE ys m = 0 := by
  unfold sameV at h
  split at h
  · rename_i hh; exact digE_ok hh.2.1 hh.2.2
  · cases h
theorem same_e (xs ys : List Int) (m : Int) : (sameE xs ys m = 0 ∨ sameE xs ys m = 1) ∧ (sameE xs ys m = 1 → sameV xs ys m = false) := by
  by_cases h : okAll xs = true ∧ okAll ys = true ∧ isMask m = true
  · rw [sameE_ok h.1 h.2.1 h.2.2]
    exact ⟨Or.inl rfl, fun e => by cases e⟩
  · exact ⟨Or.inr (sameE_bad h), fun _ => sameV_bad h⟩

set_option maxRecDepth 20000 in
set_option maxHeartbeats 4000000 in
theorem walk (x k n mask : Int) (xs zs : List Int) (bc cc : Array Value) (m i t : Int) (w : World) (hbc : bc = bankC xs) (hcc : cc = bankC zs) (hx : xs.length = 8) (hz : zs.length = 8) (hg : As.Handle w) :
    Calls Tryd.prog 4 #[.int .i64 x, .int .i64 k, .int .i64 n, .int .i64 mask, .agg bc, .int .i64 m, .agg cc, .int .i64 i, .int .i64 t] w fun e w' => e = .returned (.bool true) ∧ Below w.heap.size w w' := by
  have HK0 := hide ((Kept.start w bc cc).below (below_new _ (.cells #[.int .i64 0, .int .i64 0, .int .i64 0, .int .i64 0, .int .i64 0, .int .i64 0, .int .i64 0, .int .i64 0] 23)))
  have HZ0 := hide (show (((w.alloc (.cells bc 23)).alloc (.cells cc 23)).alloc (.cells #[.int .i64 0, .int .i64 0, .int .i64 0, .int .i64 0, .int .i64 0, .int .i64 0, .int .i64 0, .int .i64 0] 23)).heap[w.heap.size + 1 + 1]? = some (.cells #[.int .i64 0, .int .i64 0, .int .i64 0, .int .i64 0, .int .i64 0, .int .i64 0, .int .i64 0, .int .i64 0] 23) by
    have := blk_new ((w.alloc (.cells bc 23)).alloc (.cells cc 23)) (.cells #[.int .i64 0, .int .i64 0, .int .i64 0, .int .i64 0, .int .i64 0, .int .i64 0, .int .i64 0, .int .i64 0] 23)
    simpa using this)
  have HS := hide (show bc.size = 8 by rw [hbc, bankC_size, hx])
  have HT := hide (show cc.size = 8 by rw [hcc, bankC_size, hz])
  have M1 := hide (fun W => make_any 5 7 9 1 noBank #[.int .i64 0, .int .i64 0, .int .i64 0, .int .i64 0, .int .i64 0, .int .i64 0, .int .i64 0, .int .i64 0] W rfl rfl)
  have MK := hide (fun W => make_any x k n mask xs bc W hbc hx)
  have C1 := hide (fun W => check_any (pwZ 64 x) (quoV x k n mask xs) n W)
  have C2 := hide (fun W => check_any (pwZ 64 x) (quoV x k n mask xs) m W)
  have TB := hide (fun W => tells_any (quoV x k n mask xs) xs bc W hbc hx)
  have TC := hide (fun W => tells_any (quoV x k n mask xs) zs cc W hcc hz)
  have TD := hide (fun W => tells_any (quoV x k n mask xs) (extV xs i t) _ W rfl (extV_len hx i t))
  have SM := hide (fun W => Bank.same_any xs zs bc cc mask W hbc hcc hx hz)
  have SD := hide (fun W => Bank.same_any xs (extV xs i t) bc _ mask W hbc rfl hx (extV_len hx i t))
  have EX := hide (fun W => Bank.extend_any xs bc i t W hbc hx)
  have HD := hide (show (bankC (extV xs i t)).size = 8 by rw [bankC_size, extV_len hx])
  have HX := hide hx
  have HH := hide (fun (W : World) (h : Below w.heap.size w W) => hg.below h)
  rw [fact_q, errV_zero] at M1
  obtain ⟨f2, f3, f4, hf⟩ := fact_v
  rw [hf] at M1
  unfold quoC at M1
  simp only [] at M1
  clear hbc hcc hx hz hg hf
  go_enter Tryd.func4, Tryd.ntmps4
  go_wp2_with ((with_reducible refine Bank.wpl_load 19 ?_ ?_ _ ?_ _ _ HZ0.out rfl ?_); rfl; rfl; rfl)
  refine (M1.out _).mono ?_
  rintro e w1 ⟨rfl, hb1⟩
  have HK1 := hide ((HK0.out.below hb1).below (below_new w1 (.cells #[.int .i64 9, .int .i64 1, .int .i64 f2, .int .i64 f3, .int .i64 f4] 27)))
  clear hb1 HK0 HZ0 M1
  have HG1 := hide HK1.out.2.1
  go_wp2_with ((with_reducible refine Bank.wpl_load 13 ?_ ?_ _ ?_ _ _ HG1.out HS.out ?_); rfl; rfl; rfl)
  refine (MK.out _).mono ?_
  rintro e w3 ⟨rfl, hb3⟩
  have HK3 := hide (HK1.out.below hb3)
  clear hb3 HK1 HG1 MK
  rcases quoE_is x k n mask xs with hE | hE
  · obtain ⟨hn, hd, hsx, hsk⟩ := quoE_zero hE
    obtain ⟨ho, hm⟩ := digE_zero hd
    have PB := hide (fun W => Key.public_ok x W hsx)
    have OT := hide (fun (h : ¬ m = n) => chq_other (nn := m) hE h)
    have OW := hide (fun (h : m = n) => (show chqE (pwZ 64 x) (quoV x k n mask xs) m = 0 by rw [h]; exact chq_own hE))
    have SW := hide (fun (h : sameV xs zs mask = true) => (show telE (quoV x k n mask xs) zs = 0 ∧ telB (quoV x k n mask xs) zs = true from ⟨(tel_e hE).trans (same_dig h), by rw [tel_b hE (same_dig h), dig_same h]; exact decide_eq_true rfl⟩))
    have ET := hide (fun (h : extOk xs i t = true) => tel_ext HX.out hE h)
    have ES := hide (fun (h : extOk xs i t = true) => sameE_ok ho (extV_all h) hm)
    have EV := hide (fun (h : extOk xs i t = true) => sameV_ok ho (extV_all h) hm)
    rw [(tel_e (ys := xs) hE).trans hd, tel_b (ys := xs) hE hd, decide_eq_true rfl, errV_zero] at TB
    rw [chq_own hE, errV_zero] at C1
    rw [hE, errV_zero]
    clear hE hn hd hsx hsk ho hm
    obtain ⟨⟨v0, v1, v2, v3, v4⟩, hv⟩ : ∃ v, v = quoV x k n mask xs := ⟨_, rfl⟩
    rw [← hv] at C1 C2 TB TC TD OT OW SW ET ⊢
    unfold quoC at C1 C2 TB TC TD ⊢
    simp only [] at C1 C2 TB TC TD ⊢
    clear hv
    generalize pwZ 64 x = pub at *
    generalize chqE pub (v0, v1, v2, v3, v4) m = ce at *
    have HL4 : Hid (Kep w bc cc w3.heap.size #[.int .i64 v0, .int .i64 v1, .int .i64 v2, .int .i64 v3, .int .i64 v4] (w3.alloc (.cells #[.int .i64 v0, .int .i64 v1, .int .i64 v2, .int .i64 v3, .int .i64 v4] 27))) := ⟨HK3.out.below (below_new _ _), blk_new _ _⟩
    clear HK3
    go_wp2_with (fail)
    refine (PB.out _).mono ?_
    rintro e w4 ⟨rfl, hw⟩
    rw [hw]
    clear hw PB
    go_wp2_with (fail)
    refine (C1.out _).mono ?_
    rintro e w4 ⟨rfl, hb4⟩
    have HL5 := hide (HL4.out.below hb4)
    clear hb4 HL4 C1
    obtain ⟨r0, r1, r2, r3, r4⟩ := quin_cells HL5.out.2
    go_wp2_with (fail)
    refine (C2.out _).mono ?_
    rintro e w5 ⟨rfl, hb5⟩
    have HL6 := hide (HL5.out.below hb5)
    clear hb5 HL5 C2 r0 r1 r2 r3 r4
    go_upto_region 12 with (fail)
    go_cut [26, 81, 84, 85, 106] (fun _ _ _ _ s106 w' => s106 = .bool false ∧ Hid (Kep w bc cc w3.heap.size #[.int .i64 v0, .int .i64 v1, .int .i64 v2, .int .i64 v3, .int .i64 v4] w'))
    case first =>
      by_cases hmn : m = n
      · have e0 := OW.out hmn
        subst hmn
        rw [e0, errV_zero]
        clear e0 OW OT
        go_wp2
        all_goals go_meet
        all_goals exact ⟨rfl, HL6⟩
      · have e0 := OT.out hmn
        cases hM : isM m with
        | true =>
          obtain ⟨m0, m1⟩ := isM_iff.1 hM
          rw [hM, if_pos rfl] at e0
          rw [e0, show errV 57 7 = .iface 57 (.int .i64 7) from rfl]
          clear e0 OW OT hM
          go_wp2_with (fail)
          refine (As.same_err 7 7 _ (HH.out _ HL6.out.1.1)).mono ?_
          rintro e w6 ⟨rfl, hb6⟩
          have HL7 := hide (HL6.out.below hb6)
          clear hb6 HL6
          go_wp2
          all_goals go_meet
          all_goals exact ⟨rfl, HL7⟩
        | false =>
          have hr := isM_false.1 hM
          rw [hM, if_neg (by decide)] at e0
          rw [e0, errV_one]
          clear e0 OW OT hM
          by_cases m0 : 0 ≤ m
          · have m1 : 1000003 ≤ m := by omega
            clear hr
            go_wp2
            all_goals go_meet
            all_goals exact ⟨rfl, HL6⟩
          · clear hr
            go_wp2
            all_goals go_meet
            all_goals exact ⟨rfl, HL6⟩
    case rest =>
    obtain ⟨rfl, HL7⟩ := hcut
    clear HL6 OW OT
    obtain ⟨wa, hwa⟩ : ∃ wa, wa = wc := ⟨_, rfl⟩
    subst hwa
    have HG7 := hide HL7.out.1.2.1
    obtain ⟨r0, r1, r2, r3, r4⟩ := quin_cells HL7.out.2
    go_wp2_with ((with_reducible refine Bank.wpl_load 13 ?_ ?_ _ ?_ _ _ HG7.out HS.out ?_); rfl; rfl; rfl)
    refine (TB.out _).mono ?_
    rintro e w6 ⟨rfl, hb6⟩
    have HL8 := hide (HL7.out.below hb6)
    clear hb6 HL7 HG7 TB r0 r1 r2 r3 r4
    have HG8 := hide HL8.out.1.2.1
    have HC8 := hide HL8.out.1.2.2
    go_wp2_with (first | ((with_reducible refine Bank.wpl_load 13 ?_ ?_ _ ?_ _ _ HG8.out HS.out ?_); rfl; rfl; rfl) | ((with_reducible refine Bank.wpl_load 15 ?_ ?_ _ ?_ _ _ HC8.out HT.out ?_); rfl; rfl; rfl))
    refine (SM.out _).mono ?_
    rintro e w7 ⟨rfl, hb7⟩
    have HL9 := hide (HL8.out.below hb7)
    clear hb7 HL8 HG8 HC8 SM
    have SE := hide (same_e xs zs mask)
    generalize sameE xs zs mask = se at *
    generalize sameV xs zs mask = sv at *
    go_upto_region 18 with (fail)
    go_cut [23, 28, 119, 123, 124, 125, 130] (fun _ _ _ _ _ _ s130 w' => s130 = .bool sv ∧ w' = w7)
    case first =>
      rcases SE.out.1 with rfl | rfl
      · rw [errV_zero]
        cases sv with
        | true => go_wp2; go_meet; exact ⟨rfl, rfl⟩
        | false => go_wp2; go_meet; exact ⟨rfl, rfl⟩
      · obtain rfl := SE.out.2 rfl
        rw [errV_one]
        go_wp2; go_meet; exact ⟨rfl, rfl⟩
    case rest =>
    obtain ⟨rfl, rfl⟩ := hcut
    clear SE
    go_upto_if 130 with (fail)
    go_cut [29, 30, 130] (fun _ _ _ w' => Hid (Kep w bc cc w3.heap.size #[.int .i64 v0, .int .i64 v1, .int .i64 v2, .int .i64 v3, .int .i64 v4] w'))
    case first =>
      cases sv with
      | false => go_wp2; go_meet; exact HL9
      | true =>
        obtain ⟨c1, c2⟩ := SW.out rfl
        rw [c1, c2, errV_zero] at TC
        obtain ⟨r0, r1, r2, r3, r4⟩ := quin_cells HL9.out.2
        have HC9 := hide HL9.out.1.2.2
        go_wp2_with ((with_reducible refine Bank.wpl_load 15 ?_ ?_ _ ?_ _ _ HC9.out HT.out ?_); rfl; rfl; rfl)
        refine (TC.out _).mono ?_
        rintro e w8 ⟨rfl, hb8⟩
        have HLA := hide (HL9.out.below hb8)
        clear hb8 HL9 HC9 TC r0 r1 r2 r3 r4
        go_wp2
        go_meet
        exact HLA
    case rest =>
    have HLA := hcut
    clear hcut HL9 TC SW
    have HGA := hide HLA.out.1.2.1
    go_wp2_with ((with_reducible refine Bank.wpl_load 13 ?_ ?_ _ ?_ _ _ HGA.out HS.out ?_); rfl; rfl; rfl)
    refine (EX.out _).mono ?_
    rintro e w8 ⟨rfl, hb8⟩
    have HL8 := hide (HLA.out.below hb8)
    clear hb8 HLA HGA EX
    cases hok : extOk xs i t with
    | false =>
      rw [extE_bad hok, errV_one]
      clear hok
      go_wp2_with ((with_reducible refine Bank.wpl_store_new 31 148 _ _ ?_ ?_ ?_ ?_ Bank.noBank_size HD.out (Bank.bankC_one _) ?_); rfl; rfl; rfl; rfl)
      go_ret
      exact ⟨rfl, (HL8.out.below (below_new _ _)).1.1⟩
    | true =>
      obtain ⟨eT, eB⟩ := ET.out hok
      have eS := ES.out hok
      have eV := EV.out hok
      rw [eS, eV, errV_zero] at SD
      rw [eT, eB, errV_zero] at TD
      rw [extE_ok hok, errV_zero]
      clear hok eT eB eS eV ET ES EV
      have H1 := hide (Bank.bankC_one (extV xs i t))
      generalize (!M.differ xs (extV xs i t) mask) = df at *
      generalize bankC (extV xs i t) = dc at *
      have HL9 := hide (HL8.out.below (below_new w8 (.cells dc 23)))
      have HN9 := hide (blk_new w8 (.cells dc 23))
      have HG9 := hide HL9.out.1.2.1
      clear HL8
      go_wp2_with (first | ((with_reducible refine Bank.wpl_store_new 31 148 _ _ ?_ ?_ ?_ ?_ Bank.noBank_size HD.out H1.out ?_); rfl; rfl; rfl; rfl) | ((with_reducible refine Bank.wpl_load 13 ?_ ?_ _ ?_ _ _ HG9.out HS.out ?_); rfl; rfl; rfl) | ((with_reducible refine Bank.wpl_load 31 ?_ ?_ _ ?_ _ _ HN9.out HD.out ?_); rfl; rfl; rfl))
      refine (SD.out _).mono ?_
      rintro e w9 ⟨rfl, hb9⟩
      have HLA := hide (HL9.out.below hb9)
      have HNA := hide (blk_below HN9.out hb9)
      clear hb9 HL9 HN9 HG9 SD
      obtain ⟨r0, r1, r2, r3, r4⟩ := quin_cells HLA.out.2
      go_wp2_with ((with_reducible refine Bank.wpl_load 31 ?_ ?_ _ ?_ _ _ HNA.out HD.out ?_); rfl; rfl; rfl)
      refine (TD.out _).mono ?_
      rintro e wA ⟨rfl, hbA⟩
      have HLB := hide (HLA.out.below hbA)
      clear hbA HLA HNA TD r0 r1 r2 r3 r4
      go_wp2
      go_ret
      exact ⟨by first | rfl | simp, HLB.out.1.1⟩
  · rw [hE, errV_one, quoV_no (by rw [hE]; decide)]
    unfold quoC
    simp only []
    clear hE
    go_wp2
    go_ret
    exact ⟨rfl, (HK3.out.below (below_new _ _)).1⟩
end Go.Proofs.YtanoikekehepjaaDoor.QuoteFresh
