/-
  Contract of what package stairref2 says on what is sure (Sure): it returns what the plain mathematics says, and memory that was there stays as it was.
-/
import Derived.Test.YtidnjnhmkhekeaaDoorPack1
import Derived.Test.YtidnjnhmkhekeaaDoorQQuoteRef
import Derived.Test.YtidnjnhmkhekeaaDoorQRuleRef2
import Derived.Test.YtidnjnhmkhekeaaDoorQEventRef
import Derived.Deep.RegionHeld3
namespace Go.Proofs.YtidnjnhmkhekeaaDoor.JudgeRef
open Go.ChangeShapes Go.WideShapes Go.ChangeAt Go.RowKit
open Go.Proofs.YtidnjnhmkhekeaaDoor.M Go.Proofs.YtidnjnhmkhekeaaDoor.Bank
set_option linter.unusedVariables false

theorem quiet_below (w : World) : ∀ n, Below w.heap.size w (w.drewN n)
  | 0 => Below.refl _ _
  | n + 1 => Below.drew (quiet_below w n)
theorem hasA_cons (m : Int) (c : Int × List Int) (t : List (Int × List Int)) : hasA m (c :: t) = (bit m c.1.toNat && hasA m t) := rfl
theorem mask_of {pub nn : Int} {q : Int × Int × Int × Int × Int} (h : chqE pub q nn = 0) : isMask q.2.1 = true := by
  cases hf : fitQ q nn with
  | false => rw [chqE_no hf] at h; cases h
  | true => exact (fitQ_iff.1 hf).2.2.2
theorem eight_list {r : List Int} (h : r.length = 8) : ∃ a0 a1 a2 a3 a4 a5 a6 a7, r = [a0, a1, a2, a3, a4, a5, a6, a7] := by
  match r, h with
  | [a0, a1, a2, a3, a4, a5, a6, a7], _ => exact ⟨a0, a1, a2, a3, a4, a5, a6, a7, rfl⟩
/-- A quote and a bank in their blocks, and all that was there is as it was. -/
def HeldJ (w0 : World) (B : Nat) (q0 q1 q2 q3 q4 d0 d1 d2 d3 d4 d5 d6 d7 : Int) (W : World) : Prop :=
  Below w0.heap.size w0 W ∧ W.heap[w0.heap.size]? = some (.cells #[.int .i64 q0, .int .i64 q1, .int .i64 q2, .int .i64 q3, .int .i64 q4] 34) ∧ W.heap[B]? = some (.cells (bankC [d0, d1, d2, d3, d4, d5, d6, d7]) 38)
section
variable {w0 W W' : World} {B : Nat} {q0 q1 q2 q3 q4 d0 d1 d2 d3 d4 d5 d6 d7 : Int}
theorem heldJ_S (h : HeldJ w0 B q0 q1 q2 q3 q4 d0 d1 d2 d3 d4 d5 d6 d7 W) : (W.cell? ⟨w0.heap.size, 1, none⟩ = some (.int .i64 q1) ∧ W.cell? ⟨w0.heap.size, 2, none⟩ = some (.int .i64 q2)) ∧ (W.cell? ⟨B, 0, none⟩ = some (.int .i64 d0) ∧ W.cell? ⟨B, 1, none⟩ = some (.int .i64 d1) ∧ W.cell? ⟨B, 2, none⟩ = some (.int .i64 d2) ∧ W.cell? ⟨B, 3, none⟩ = some (.int .i64 d3) ∧ W.cell? ⟨B, 4, none⟩ = some (.int .i64 d4) ∧ W.cell? ⟨B, 5, none⟩ = some (.int .i64 d5) ∧ W.cell? ⟨B, 6, none⟩ = some (.int .i64 d6) ∧ W.cell? ⟨B, 7, none⟩ = some (.int .i64 d7)) ∧ HeldJ w0 B q0 q1 q2 q3 q4 d0 d1 d2 d3 d4 d5 d6 d7 W := by
  refine ⟨⟨?_, ?_⟩, ⟨?_, ?_, ?_, ?_, ?_, ?_, ?_, ?_⟩, h⟩
  · rw [cell_of_row W _ _ _ _ _ h.2.1]; rfl
  · rw [cell_of_row W _ _ _ _ _ h.2.1]; rfl
  all_goals (rw [cell_of_row W _ _ _ _ _ h.2.2]; rfl)
theorem heldJ_drew (h : HeldJ w0 B q0 q1 q2 q3 q4 d0 d1 d2 d3 d4 d5 d6 d7 W) : HeldJ w0 B q0 q1 q2 q3 q4 d0 d1 d2 d3 d4 d5 d6 d7 W.drew := ⟨Below.drew h.1, h.2.1, h.2.2⟩
theorem heldJ_below (h : HeldJ w0 B q0 q1 q2 q3 q4 d0 d1 d2 d3 d4 d5 d6 d7 W) (hb : Below W.heap.size W W') : HeldJ w0 B q0 q1 q2 q3 q4 d0 d1 d2 d3 d4 d5 d6 d7 W' := ⟨below_on h.1 hb, blk_below h.2.1 hb, blk_below h.2.2 hb⟩
end

set_option maxRecDepth 20000 in
set_option maxHeartbeats 2000000 in
theorem sure_any (pub : Int) (q : Int × Int × Int × Int × Int) (nn : Int) (a : Option Addr) (es : List (Int × Int)) (n cap : Nat) (ar : Option Addr) (rl : List (Int × Value × List Int)) (nr cr : Nat) (w : World)
    (hn : n = es.length) (hm : n ≤ maxLen) (hr : RRow 2 evV w a es) (hnr : nr = rl.length) (hmr : nr ≤ maxLen) (hrr : RulesIn w ar rl) :
    Calls Tryd.prog 21 #[.int .i64 pub, .agg (quoC q), .int .i64 nn, .slice a n cap, .slice ar nr cr] w fun e w' => e = .returned (.int .i64 (surE pub q nn es (rulesL rl))) ∧ Below w.heap.size w w' := by
  have hmr' : nr ≤ 9223372036854775807 := by unfold maxLen at hmr; omega
  have QC := hide (fun W => Ref.quote_any pub q nn W)
  have EV := hide (fun (W : World) (h : Below w.heap.size w W) => EventRef.events_any a es n cap W hn hm (hr.below h))
  have RU := hide (fun (W : World) (h : Below w.heap.size w W) => Ref.rules_any ar rl nr cr W hnr hmr (hrr.below h))
  have RP := hide (fun (W : World) (h : Below w.heap.size w W) (ho : es.all evOk = true) => EventRef.replay_ok a es n cap W hn hm (hr.below h) ho)
  have FT := hide (fun (W : World) (h : Below w.heap.size w W) (ho : rulesE (rulesL rl) = 0) (ys : List Int) (bc : Array Value) (hbc : bc = bankC ys) (hl : ys.length = 8) => Ref.fits_ok ar rl nr cr ys bc W hnr hmr (hrr.below h) ho hbc hl)
  have HNR := hide hnr
  have HRR := hide hrr
  have HB0 := hide (below_new w (.cells (quoC q) 34))
  have HG0 := hide (blk_new w (.cells (quoC q) 34))
  have HMK := hide (fun h => mask_of (pub := pub) (nn := nn) (q := q) h)
  obtain ⟨q0, q1, q2, q3, q4⟩ := q
  unfold quoC at *
  simp only [] at QC HB0 HG0 HMK ⊢
  clear hn hm hr hnr hmr hrr
  go_enter Tryd.func21, Tryd.ntmps21
  go_wp2_with (fail)
  refine (QC.out _).mono ?_
  rintro e w1 ⟨rfl, hb1⟩
  have HB1 := hide (below_on HB0.out hb1)
  have HG1 := hide (blk_below HG0.out hb1)
  clear hb1 HB0 HG0 QC
  by_cases hQ : chqE pub (q0, q1, q2, q3, q4) nn = 0
  · have HQ := hide hQ
    have hmk := HMK.out hQ
    rw [hQ]
    clear hQ HMK
    go_wp2_with (fail)
    refine (EV.out _ HB1.out).mono ?_
    rintro e w1' ⟨rfl, hw⟩
    rw [hw]
    clear hw EV
    by_cases hE : evE es = 0
    · have HE := hide hE
      rw [hE]
      clear hE
      go_wp2_with (fail)
      refine (RU.out _ HB1.out).mono ?_
      rintro e w2 ⟨rfl, hb2⟩
      have HB2 := hide (below_on HB1.out hb2)
      have HG2 := hide (blk_below HG1.out hb2)
      clear hb2 HB1 HG1 RU
      by_cases hR : rulesE (rulesL rl) = 0
      · have HRO := hide hR
        rw [hR]
        clear hR
        have HO := hide (bankC_one (repV es))
        have HZ := hide (show (bankC (repV es)).size = 8 by rw [bankC_size]; exact repV_len _)
        go_wp2_with (fail)
        refine (RP.out _ HB2.out (evE_zero HE.out).2).mono ?_
        rintro e w3 ⟨rfl, hb3⟩
        have DV := hide (digV_ok (repV_ok es) hmk)
        have DG := hide (fun W => Ref.digest_ok (repV es) (bankC (repV es)) q1 W rfl (repV_len es) (repV_ok es) hmk)
        rw [← DV.out] at DG
        have SD := hide (fun (h : ¬ digV (repV es) q1 = q2) => sur_dig (rl := rulesL rl) (q := (q0, q1, q2, q3, q4)) HQ.out HE.out HRO.out h)
        have SA := hide (fun (h : digV (repV es) q1 = q2) h5 => sur_ask (rl := rulesL rl) (q := (q0, q1, q2, q3, q4)) HQ.out HE.out HRO.out h h5)
        have SF := hide (fun (h : digV (repV es) q1 = q2) h5 h6 => sur_fit (rl := rulesL rl) (q := (q0, q1, q2, q3, q4)) HQ.out HE.out HRO.out h h5 h6)
        have SO := hide (fun (h : digV (repV es) q1 = q2) h5 h6 => sur_ok (rl := rulesL rl) (q := (q0, q1, q2, q3, q4)) HQ.out HE.out HRO.out h h5 h6)
        simp only [] at SD SA SF SO
        have hrl := repV_len es
        have hb3' := below_on HB2.out (below_on hb3 (below_new w3 (.cells (bankC (repV es)) 38)))
        have hg3' := blk_below HG2.out (below_on hb3 (below_new w3 (.cells (bankC (repV es)) 38)))
        have hn3' := blk_new w3 (.cells (bankC (repV es)) 38)
        clear hb3 DV HB2 HG2 RP
        generalize digV (repV es) q1 = dv at *
        generalize repV es = rb at *
        obtain ⟨d0, d1, d2, d3, d4, d5, d6, d7, rfl⟩ := eight_list hrl
        have h3 : HeldJ w w3.heap.size q0 q1 q2 q3 q4 d0 d1 d2 d3 d4 d5 d6 d7 (w3.alloc (.cells (bankC [d0, d1, d2, d3, d4, d5, d6, d7]) 38)) := ⟨hb3', hg3', hn3'⟩
        clear hb3' hg3' hn3' hrl
        go_upto_region 9 with ((with_reducible refine wpl_store_new 12 32 _ _ ?_ ?_ ?_ ?_ noBank_size HZ.out HO.out ?_); rfl; rfl; rfl; rfl)
        generalize w3.alloc (.cells (bankC [d0, d1, d2, d3, d4, d5, d6, d7]) 38) = wa at *
        generalize w3.heap.size = B at *
        rw [show bankC [d0, d1, d2, d3, d4, d5, d6, d7] = #[.int .i64 d0, .int .i64 d1, .int .i64 d2, .int .i64 d3, .int .i64 d4, .int .i64 d5, .int .i64 d6, .int .i64 d7] from rfl] at DG
        obtain ⟨⟨m1, m2⟩, ⟨e0, e1, e2, e3, e4, e5, e6, e7⟩, _⟩ := heldJ_S h3
        go_region_held3 (fun W => (W.cell? ⟨w.heap.size, 1, none⟩ = some (.int .i64 q1) ∧ W.cell? ⟨w.heap.size, 2, none⟩ = some (.int .i64 q2)) ∧ (W.cell? ⟨B, 0, none⟩ = some (.int .i64 d0) ∧ W.cell? ⟨B, 1, none⟩ = some (.int .i64 d1) ∧ W.cell? ⟨B, 2, none⟩ = some (.int .i64 d2) ∧ W.cell? ⟨B, 3, none⟩ = some (.int .i64 d3) ∧ W.cell? ⟨B, 4, none⟩ = some (.int .i64 d4) ∧ W.cell? ⟨B, 5, none⟩ = some (.int .i64 d5) ∧ W.cell? ⟨B, 6, none⟩ = some (.int .i64 d6) ∧ W.cell? ⟨B, 7, none⟩ = some (.int .i64 d7)) ∧ HeldJ w B q0 q1 q2 q3 q4 d0 d1 d2 d3 d4 d5 d6 d7 W)
          (exact heldJ_S (by repeat (first | assumption | apply heldJ_drew)))
          ((go_at_call 49; refine (DG.out _).mono ?_; rintro e w5 ⟨rfl, hb5⟩; have h5 : HeldJ w B q0 q1 q2 q3 q4 d0 d1 d2 d3 d4 d5 d6 d7 w5 := heldJ_below (by repeat (first | assumption | apply heldJ_drew)) hb5; clear hb5; obtain ⟨⟨n1, n2⟩, ⟨o0, o1, o2, o3, o4, o5, o6, o7⟩, _⟩ := heldJ_S h5))
        all_goals
          by_cases hD : dv = q2
          · have SA' := hide (fun h5 => SA.out hD h5)
            have SF' := hide (fun h5 h6 => SF.out hD h5 h6)
            have SO' := hide (fun h5 h6 => SO.out hD h5 h6)
            have H9 : Hid (HeldJ w B q0 q1 q2 q3 q4 d0 d1 d2 d3 d4 d5 d6 d7 _) := (by repeat (first | assumption | apply heldJ_drew))
            clear SD SA SF SO h3 m1 m2 e0 e1 e2 e3 e4 e5 e6 e7 h5 n1 n2 o0 o1 o2 o3 o4 o5 o6 o7 DG
            obtain ⟨hm0, hm1⟩ := isMask_iff.1 hmk
            go_wp2
            go_loopw [13, 14] (fun s13 _ wr => ∃ k : Nat, k ≤ nr ∧ s13 = .int .i64 k ∧ Hid (hasA q1 (rulesL rl) = hasA q1 ((rulesL rl).drop k)) ∧ Hid (HeldJ w B q0 q1 q2 q3 q4 d0 d1 d2 d3 d4 d5 d6 d7 wr)) (fun s13 _ _ => nr - (intOf s13).toNat)
            case atStart => exact ⟨0, by omega, rfl, rfl, H9.out⟩
            case round =>
              obtain ⟨k, hk, rfl, HF, HK⟩ := hrel
              by_cases hlt : k < nr
              · have hlz : (k : Int) < nr := by omega
                obtain ⟨⟨r, v, g⟩, hc⟩ : ∃ c, rl[k]? = some c := ⟨rl[k]'(by have := HNR.out; omega), List.getElem?_eq_getElem (by have := HNR.out; omega)⟩
                obtain ⟨r0, r8⟩ := rules_reg HRO.out hc
                obtain ⟨rn, rfl⟩ : ∃ rn : Nat, r = rn := ⟨r.toNat, by omega⟩
                have HD := hide (drop_cons (rulesL_at hc))
                simp only [] at HD
                have HC := hide (show hasA q1 (rulesL rl) = (bit q1 rn && hasA q1 ((rulesL rl).drop (k + 1))) by rw [HF.out, HD.out, hasA_cons]; simp only [Int.toNat_natCast])
                obtain ⟨b, off, ad, gc, rfl, rfl, _, _, _, c0, c1⟩ := (HRR.out.below HK.out.1).at hc
                have AS := hide (fun W => Ref.asks_any q1 rn W hm0 hm1 (by omega))
                obtain ⟨⟨m1, m2⟩, _, _⟩ := heldJ_S HK.out
                clear hc HD HF
                generalize bit q1 rn = bt at *
                go_wp2_with (fail)
                go_quiet ((go_at_call 50; exact Calls.quiet_of_same (AS.out _)))
                cases bt with
                | true =>
                  have E := hide (show hasA q1 (rulesL rl) = hasA q1 ((rulesL rl).drop (k + 1)) by rw [HC.out]; rfl)
                  go_wp2
                  go_roundw
                  case rel => exact ⟨k + 1, by omega, by go_num, E.out, heldJ_below HK.out (quiet_below _ _)⟩
                  case measure => simp [intOf]; omega
                | false =>
                  have E := hide (SA'.out (by rw [HC.out]; simp))
                  go_wp2
                  go_ret
                  exact ⟨by rw [E.out]; rfl, (heldJ_below HK.out (quiet_below _ _)).1⟩
              · have hlz : ¬ (k : Int) < nr := by omega
                have HX := hide (show hasA q1 (rulesL rl) = true by rw [HF.out, List.drop_eq_nil_of_le (by rw [rulesL_len]; have := HNR.out; omega)]; rfl)
                have F := hide (FT.out wr HK.out.1 HRO.out [d0, d1, d2, d3, d4, d5, d6, d7] _ rfl rfl)
                have S5 := hide (fun h6 => SF'.out HX.out h6)
                have S6 := hide (fun h6 => SO'.out HX.out h6)
                clear HX SA' SF' SO' FT
                generalize fitsB (rulesL rl) [d0, d1, d2, d3, d4, d5, d6, d7] = fb at *
                have HBK := hide (show wr.heap[B]? = some (.cells (bankC [d0, d1, d2, d3, d4, d5, d6, d7]) 38) from HK.out.2.2)
                have HZ' := hide (show (bankC [d0, d1, d2, d3, d4, d5, d6, d7]).size = 8 from rfl)
                go_wp2_with ((with_reducible refine wpl_load 12 ?_ ?_ _ ?_ _ _ HBK.out HZ'.out ?_); rfl; rfl; rfl)
                refine F.out.mono ?_
                rintro e w6 ⟨rfl, hb6⟩
                have HL := hide (below_on HK.out.1 hb6)
                clear hb6
                cases fb with
                | true =>
                  have E := hide (S6.out rfl)
                  go_wp2
                  go_ret
                  exact ⟨by rw [E.out]; rfl, HL.out⟩
                | false =>
                  have E := hide (S5.out (by decide))
                  go_wp2
                  go_ret
                  exact ⟨by rw [E.out]; rfl, HL.out⟩
          · have E := hide (SD.out hD)
            have H9 : Hid (HeldJ w B q0 q1 q2 q3 q4 d0 d1 d2 d3 d4 d5 d6 d7 _) := (by repeat (first | assumption | apply heldJ_drew))
            go_wp2
            go_ret
            exact ⟨by rw [E.out]; rfl, H9.out.1⟩
      · have E := hide (sur_rul (rl := rulesL rl) HQ.out HE.out hR)
        generalize rulesE (rulesL rl) = re at *
        go_wp2
        go_ret
        exact ⟨by rw [E.out]; rfl, HB2.out⟩
    · have E := hide (sur_ev (rl := rulesL rl) HQ.out hE)
      generalize evE es = ee at *
      go_wp2
      go_ret
      exact ⟨by rw [E.out]; rfl, HB1.out⟩
  · have E := hide (sur_quo (es := es) (rl := rulesL rl) hQ)
    generalize chqE pub (q0, q1, q2, q3, q4) nn = ce at *
    go_wp2
    go_ret
    exact ⟨by rw [E.out]; rfl, HB1.out⟩
end Go.Proofs.YtidnjnhmkhekeaaDoor.JudgeRef
