/-
  Contract of package judge's Sure over this translation: what it returns, and that memory that was there stays as it was.
-/
import Derived.Test.YtojdaifnljghkabGreatDoorQJudgeLaw
import Derived.Test.YtojdaifnljghkabGreatDoorQQuote2
import Derived.Test.YtojdaifnljghkabGreatDoorQRule2
import Derived.Test.YtojdaifnljghkabGreatDoorQEventObj
namespace Go.Proofs.YtojdaifnljghkabGreatDoor.M
theorem not_fin : ∀ (a b : Fin 256), decide (bits .andNot .i64 (a.val : Int) (b.val : Int) = 0) = (List.range 8).all fun k => !bit (a.val : Int) k || bit (b.val : Int) k := by decide +kernel
/-- A mask asks for all registers of some rules just if theirs has nothing beside it. -/
theorem mask_not {rl : List (Int × List Int)} {m : Int} (h : rulesE rl = 0) (hm : isMask m = true) : (bits .andNot .i64 (maskV rl) m = 0) ↔ hasA m rl = true := by
  obtain ⟨_, h1⟩ := rulesE_zero h
  obtain ⟨h2, h3⟩ := rules_regs rl [] h1
  obtain ⟨⟨m0, m1⟩, m2⟩ := mask_bits rl 0 (by omega) (by omega) (fun c hc => ⟨(h2 c hc).1, bit_zero _⟩) h3
  have hm' := isMask_iff.1 hm
  have hf := not_fin ⟨(maskF 0 rl).toNat, by omega⟩ ⟨m.toNat, by omega⟩
  simp only [] at hf
  rw [show (((maskF 0 rl).toNat : Nat) : Int) = maskF 0 rl by omega, show ((m.toNat : Nat) : Int) = m by omega] at hf
  unfold maskV
  rw [← decide_eq_true_iff (p := bits .andNot .i64 (maskF 0 rl) m = 0), hf, List.all_eq_true]
  unfold hasA
  rw [List.all_eq_true]
  constructor
  · intro hk c hc
    have hr := isReg_iff.1 (h2 c hc).1
    have := hk c.1.toNat (List.mem_range.2 (by omega))
    have hb : bit (maskF 0 rl) c.1.toNat = true := (mask_of h).2 c hc
    rw [hb] at this
    simpa using this
  · intro hk k hkr
    have hk8 := List.mem_range.1 hkr
    cases hb : bit (maskF 0 rl) k with
    | false => rfl
    | true =>
      rw [m2 k hk8, bit_zero, Bool.or_false, List.any_eq_true] at hb
      obtain ⟨c, hc, he⟩ := hb
      have := hk c hc
      rw [show c.1.toNat = k by have := of_decide_eq_true he; omega] at this
      rw [this]
      rfl
theorem chq_fit {pub nn : Int} {q : Int × Int × Int × Int × Int} (h : chqE pub q nn = 0) : isM q.2.2.1 = true ∧ isMask q.2.1 = true := by
  cases hf : fitQ q nn with
  | false => rw [chqE_no hf] at h; cases h
  | true => exact (fitQ_iff.1 hf).2.2
end Go.Proofs.YtojdaifnljghkabGreatDoor.M
namespace Go.Proofs.YtojdaifnljghkabGreatDoor.Judge
open Go.ChangeShapes Go.WideShapes Go.ChangeAt Go.RowKit
open Go.Proofs.YtojdaifnljghkabGreatDoor.M
set_option linter.unusedVariables false

set_option maxRecDepth 20000 in
set_option maxHeartbeats 2000000 in
theorem agree_any (q : Int × Int × Int × Int × Int) (xs : List Int) (c : Array Value) (w : World) (hc : c = bankC xs) (hl : xs.length = 8) (hE : telE q xs = 0) :
    Calls Tryz.prog 63 #[.agg (quoC q), .agg c] w fun e w' => e = .returned (errV 96 (if telB q xs = true then 0 else 3)) ∧ Below w.heap.size w w' := by
  have TL := hide (fun W => Quote.tells_any q xs c W hc hl)
  rw [hE, errV_zero] at TL
  obtain ⟨q0, q1, q2, q3, q4⟩ := q
  unfold quoC at TL ⊢
  simp only [] at TL ⊢
  have HB0 := hide (below_on (below_new w (.cells #[.int .i64 q0, .int .i64 q1, .int .i64 q2, .int .i64 q3, .int .i64 q4] 45)) (below_new _ (.cells c 67)))
  have HG0 := hide (blk_keep (blk_new w (.cells #[.int .i64 q0, .int .i64 q1, .int .i64 q2, .int .i64 q3, .int .i64 q4] 45)) (.cells c 67))
  have HK0 := hide (Quote.blk_two (w := w) (o := .cells #[.int .i64 q0, .int .i64 q1, .int .i64 q2, .int .i64 q3, .int .i64 q4] 45) (o' := .cells c 67))
  have HS := hide (show c.size = 8 by rw [hc, bankC_size, hl])
  obtain ⟨r0, r1, r2, r3, r4⟩ := quin_cells HG0.out
  clear hc hl hE
  generalize telB (q0, q1, q2, q3, q4) xs = tb at *
  go_enter Tryz.func63, Tryz.ntmps63
  go_wp2_with ((with_reducible refine Bank.wpl_load 3 ?_ ?_ _ ?_ _ _ HK0.out HS.out ?_); rfl; rfl; rfl)
  refine (TL.out _).mono ?_
  rintro e w1 ⟨rfl, hb1⟩
  have HB1 := hide (below_on HB0.out hb1)
  clear hb1 HB0 HG0 HK0 TL r0 r1 r2 r3 r4
  cases tb with
  | true =>
    go_wp2
    go_ret
    exact ⟨rfl, HB1.out⟩
  | false =>
    go_wp2
    go_ret
    exact ⟨rfl, HB1.out⟩
set_option maxRecDepth 20000 in
set_option maxHeartbeats 2000000 in
theorem obey_any (a : Option Addr) (l : List (Int × Value × List Int)) (n cap : Nat) (ys : List Int) (bc : Array Value) (w : World) (hn : n = l.length) (hm : n ≤ maxLen) (hcap : n ≤ cap) (hr : RulesIn w a l) (hbc : bc = bankC ys) (hl : ys.length = 8) (hE : fitE (rulesL l) ys = 0) :
    Calls Tryz.prog 64 #[.slice a n cap, .agg bc] w fun e w' => e = .returned (errV 96 (if fitA (rulesL l) ys = true then 0 else 6)) ∧ Below w.heap.size w w' := by
  have HB0 := hide ((Below.refl _ w).alloc (Nat.le_refl _) (.cells bc 67))
  have HK0 := hide (show (w.alloc (.cells bc 67)).heap[w.heap.size]? = some (.cells bc 67) from Array.getElem?_push_size)
  have HS := hide (show bc.size = 8 by rw [hbc, bankC_size, hl])
  have FT := hide (fun (W : World) (h : RulesIn W a l) => Rule.fits_any a l n cap ys bc W hn hm hcap h hbc hl)
  rw [hE, errV_zero] at FT
  have HR := hide hr
  clear hn hm hcap hr hbc hl hE
  generalize fitA (rulesL l) ys = tb at *
  go_enter Tryz.func64, Tryz.ntmps64
  go_wp2_with ((with_reducible refine Bank.wpl_load 3 ?_ ?_ _ ?_ _ _ HK0.out HS.out ?_); rfl; rfl; rfl)
  refine (FT.out _ (HR.out.below HB0.out)).mono ?_
  rintro e w1 ⟨rfl, hb1⟩
  have HB1 := hide (below_on HB0.out hb1)
  clear hb1 HB0 HK0 FT
  cases tb with
  | true =>
    go_wp2
    go_ret
    exact ⟨rfl, HB1.out⟩
  | false =>
    go_wp2
    go_ret
    exact ⟨rfl, HB1.out⟩
set_option maxRecDepth 20000 in
set_option maxHeartbeats 4000000 in
theorem sureLaw : SureLaw := by
  intro pub q nn a es n cap ar rl nr cr w hn hm hr hnr hmr hcr hrr
  have QC := hide (fun W => Quote.check_any pub q nn W)
  have EV := hide (fun (W : World) (h : Below w.heap.size w W) => Event.replayLaw a es n cap W hn hm (hr.below h))
  have MK := hide (fun (W : World) (h : Below w.heap.size w W) => Rule.mask_any ar rl nr cr W hnr hmr hcr (hrr.below h))
  have TL := hide (fun (W : World) (h : telE q (repP es) = 0) => agree_any q (repP es) (bankC (repP es)) W rfl (Event.repP_len es) h)
  have FT := hide (fun (W : World) (h : Below w.heap.size w W) (h2 : fitE (rulesL rl) (repP es) = 0) => obey_any ar rl nr cr (repP es) (bankC (repP es)) W hnr hmr hcr (hrr.below h) rfl (Event.repP_len es) h2)
  have HSP := hide (show (bankC (repP es)).size = 8 by rw [bankC_size]; exact Event.repP_len es)
  have HOP := hide (Bank.bankC_one (repP es))
  have S1 := hide (fun h => sur_quo (pub := pub) (nn := nn) (q := q) (es := es) (rl := rulesL rl) h)
  have S2 := hide (fun h h2 => sur_ev (pub := pub) (nn := nn) (q := q) (es := es) (rl := rulesL rl) h h2)
  have S3 := hide (fun h h2 h3 => sur_rul (pub := pub) (nn := nn) (q := q) (es := es) (rl := rulesL rl) h h2 h3)
  have S4 := hide (fun h h2 h3 h4 => sur_dig (pub := pub) (nn := nn) (q := q) (es := es) (rl := rulesL rl) h h2 h3 h4)
  have S5 := hide (fun h h2 h3 h4 h5 => sur_ask (pub := pub) (nn := nn) (q := q) (es := es) (rl := rulesL rl) h h2 h3 h4 h5)
  have S6 := hide (fun h h2 h3 h4 h5 h6 => sur_fit (pub := pub) (nn := nn) (q := q) (es := es) (rl := rulesL rl) h h2 h3 h4 h5 h6)
  have S7 := hide (fun h h2 h3 h4 h5 h6 => sur_ok (pub := pub) (nn := nn) (q := q) (es := es) (rl := rulesL rl) h h2 h3 h4 h5 h6)
  have CF := hide (fun h => chq_fit (pub := pub) (nn := nn) (q := q) h)
  have EP := hide (fun (h : evE es = 0) => show repP es = repV es from if_pos h)
  have EO := hide (repV_ok es)
  clear hn hm hr hnr hmr hcr hrr
  obtain ⟨q0, q1, q2, q3, q4⟩ := q
  unfold quoC at QC TL
  simp only [] at QC TL S1 S2 S3 S4 S5 S6 S7 CF ⊢
  have HB0 := hide (below_new w (.cells #[.int .i64 q0, .int .i64 q1, .int .i64 q2, .int .i64 q3, .int .i64 q4] 45))
  have HG0 := hide (blk_new w (.cells #[.int .i64 q0, .int .i64 q1, .int .i64 q2, .int .i64 q3, .int .i64 q4] 45))
  generalize surE pub (q0, q1, q2, q3, q4) nn es (rulesL rl) = sE at *
  generalize chqE pub (q0, q1, q2, q3, q4) nn = qE at *
  go_enter Tryz.func16, Tryz.ntmps16
  go_wp2_with (fail)
  refine (QC.out _).mono ?_
  rintro e w1 ⟨rfl, hb1⟩
  have HB1 := hide (below_on HB0.out hb1)
  have HG1 := hide (blk_below HG0.out hb1)
  clear hb1 HB0 HG0 QC
  by_cases h1 : qE = 0
  · have H1 := hide h1
    subst h1
    rw [errV_zero]
    go_wp2_with (fail)
    refine (EV.out _ HB1.out).mono ?_
    rintro e w2 ⟨rfl, hb2⟩
    have hq2 := below_on hb2 (below_new w2 (.cells (bankC (repP es)) 67))
    have HB2 := hide (below_on HB1.out hq2)
    have HG2 := hide (blk_below HG1.out hq2)
    have HL2 := hide (blk_new w2 (.cells (bankC (repP es)) 67))
    clear hb2 hq2 HB1 HG1 EV
    by_cases h2 : evE es = 0
    · have H2 := hide h2
      rw [h2, errV_zero]
      have HRP := hide (EP.out h2)
      clear h2
      go_wp2_with ((with_reducible refine Bank.wpl_store_new 12 26 _ _ ?_ ?_ ?_ ?_ Bank.noBank_size HSP.out HOP.out ?_); rfl; rfl; rfl; rfl)
      refine (MK.out _ HB2.out).mono ?_
      rintro e w3 ⟨rfl, hb3⟩
      have HB3 := hide (below_on HB2.out hb3)
      have HG3 := hide (blk_below HG2.out hb3)
      have HL3 := hide (blk_below HL2.out hb3)
      clear hb3 HB2 HG2 HL2 MK
      by_cases h3 : rulesE (rulesL rl) = 0
      · have H3 := hide h3
        have hRP := HRP.out
        rw [h3, errV_zero, maskA_ok h3]
        have hD : telE (q0, q1, q2, q3, q4) (repP es) = 0 := by rw [telE_ok (CF.out (by trivial)).1, hRP]; exact digE_ok EO.out (CF.out (by trivial)).2
        have hTB := telB_ok hD
        rw [hRP] at hTB
        have MN := hide (mask_not h3 (CF.out (by trivial)).2)
        have FE : fitE (rulesL rl) (repP es) = 0 := by rw [fitE_ok h3, hRP]; exact bankE_ok EO.out
        have FA : fitA (rulesL rl) (repP es) = fitsB (rulesL rl) (repV es) := by rw [fitA_ok FE, hRP]
        have AG := hide (fun (W : World) => TL.out W hD)
        have OB := hide (fun (W : World) (h : Below w.heap.size w W) => FT.out W h FE)
        clear TL FT
        rw [hRP, hTB] at AG
        rw [FA] at OB
        rw [hRP] at HL3 HSP OB
        clear hD hTB FE FA h3 hRP
        simp only [] at AG S4 S5 S6 S7
        generalize bankC (repV es) = bc at *
        obtain ⟨r0, r1, r2, r3, r4⟩ := quin_cells HG3.out
        go_wp2_with ((with_reducible refine Bank.wpl_load 12 ?_ ?_ _ ?_ _ _ HL3.out HSP.out ?_); rfl; rfl; rfl)
        refine (AG.out _).mono ?_
        rintro e w4 ⟨rfl, hb4⟩
        have HB4 := hide (below_on HB3.out hb4)
        have HG4 := hide (blk_below HG3.out hb4)
        have HL4 := hide (blk_below HL3.out hb4)
        clear hb4 HB3 HG3 HL3 AG r0 r1 r2 r3 r4
        obtain ⟨r0, r1, r2, r3, r4⟩ := quin_cells HG4.out
        by_cases h4 : digV (repV es) q1 = q2
        · have H4 := hide h4
          rw [decide_eq_true h4, if_pos rfl, errV_zero]
          clear h4
          by_cases h5 : bits .andNot .i64 (maskV (rulesL rl)) q1 = 0
          · have H5 := hide (MN.out.1 h5)
            go_wp2_with ((with_reducible refine Bank.wpl_load 12 ?_ ?_ _ ?_ _ _ HL4.out HSP.out ?_); rfl; rfl; rfl)
            refine (OB.out _ HB4.out).mono ?_
            rintro e w5 ⟨rfl, hb5⟩
            have HB5 := hide (below_on HB4.out hb5)
            clear hb5 HB4 HG4 HL4 OB r0 r1 r2 r3 r4 h5
            cases h6 : fitsB (rulesL rl) (repV es) with
            | true =>
              have E := hide (S7.out (by trivial) H2.out H3.out H4.out H5.out h6)
              clear h6
              rw [if_pos rfl]
              go_wp2
              go_ret
              exact ⟨by rw [E.out]; rfl, HB5.out⟩
            | false =>
              have E := hide (S6.out (by trivial) H2.out H3.out H4.out H5.out (by rw [h6]; exact Bool.false_ne_true))
              clear h6
              rw [if_neg Bool.false_ne_true]
              go_wp2
              go_ret
              exact ⟨by rw [E.out]; rfl, HB5.out⟩
          · have E := hide (S5.out (by trivial) H2.out H3.out H4.out (fun h => h5 (MN.out.2 h)))
            go_wp2
            go_ret
            exact ⟨by rw [E.out]; rfl, HB4.out⟩
        · have E := hide (S4.out (by trivial) H2.out H3.out h4)
          rw [decide_eq_false h4, if_neg Bool.false_ne_true]
          clear h4
          have HX := hide (errV_not (T := 96) (show ¬ (3 : Int) = 0 by decide))
          rw [HX.out]
          go_wp2
          go_ret
          exact ⟨by rw [E.out, HX.out]; rfl, HB4.out⟩
      · have E := hide (S3.out (by trivial) H2.out h3)
        have HX := hide (errV_not (T := 96) h3)
        rw [HX.out]
        clear h3
        go_wp2
        go_ret
        exact ⟨by rw [E.out, HX.out]; rfl, HB3.out⟩
    · have E := hide (S2.out (by trivial) h2)
      have HX := hide (errV_not (T := 96) h2)
      rw [HX.out]
      clear h2
      go_wp2_with ((with_reducible refine Bank.wpl_store_new 12 26 _ _ ?_ ?_ ?_ ?_ Bank.noBank_size HSP.out HOP.out ?_); rfl; rfl; rfl; rfl)
      go_ret
      exact ⟨by rw [E.out, HX.out]; rfl, HB2.out⟩
  · have E := hide (S1.out h1)
    have HX := hide (errV_not (T := 96) h1)
    rw [HX.out]
    clear h1
    go_wp2
    go_ret
    exact ⟨by rw [E.out, HX.out]; rfl, HB1.out⟩
end Go.Proofs.YtojdaifnljghkabGreatDoor.Judge
