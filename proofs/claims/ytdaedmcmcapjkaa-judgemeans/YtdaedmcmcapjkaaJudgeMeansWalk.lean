/-
  The walk of stairlaw2.JudgeMeans: it returns true, and memory that was there stays as it was.
-/
import Derived.Test.YtdaedmcmcapjkaaJudgeLaw
import Derived.Test.YtdaedmcmcapjkaaJudgeMeansMath
import Derived.Test.YtdaedmcmcapjkaaEventLaw
import Derived.Test.YtdaedmcmcapjkaaQuote2
import Derived.Test.YtdaedmcmcapjkaaRule2
import Derived.Test.YtdaedmcmcapjkaaRef2
import Derived.Deep.DeepCutAuto
namespace Go.Proofs.Ytdaedmcmcapjkaa.JudgeMeans
open Go.ChangeShapes Go.WideShapes Go.ChangeAt Go.RowKit
open Go.Proofs.Ytdaedmcmcapjkaa.M Go.Proofs.Ytdaedmcmcapjkaa.Judge
set_option linter.unusedVariables false

theorem errV_no {T : TypeId} {k : Int} (h : ¬ k = 0) : errV T k = .iface T (.int .i64 k) := if_neg h
theorem blk_n {W : World} {k : Nat} (h : W.heap.size = k) (o : Obj) : (W.alloc o).heap[k]? = some o := by subst h; exact blk_new _ _
/-- What the walk carries: the quote and the bank lie where they were laid, and all that was there is as it was. -/
def Kept (w0 : World) (q : Int × Int × Int × Int × Int) (g : Nat) (bc : Array Value) (W : World) : Prop :=
  Below w0.heap.size w0 W ∧ W.heap[w0.heap.size]? = some (.cells #[.int .i64 q.1, .int .i64 q.2.1, .int .i64 q.2.2.1, .int .i64 q.2.2.2.1, .int .i64 q.2.2.2.2] 27) ∧ W.heap[g]? = some (.cells bc 33)
theorem Kept.below {w0 W W' : World} {q : Int × Int × Int × Int × Int} {g : Nat} {bc : Array Value} (h : Kept w0 q g bc W) (hb : Below W.heap.size W W') : Kept w0 q g bc W' := ⟨below_on h.1 hb, blk_below h.2.1 hb, blk_below h.2.2 hb⟩
theorem fact_q : quoE 5 7 9 1 noBank = 0 := by
  rw [quoE_go (by decide) (digE_ok (by decide) (by decide))]
  exact sigC_ok (by decide) (by decide) (quoM_m _ _ _)
theorem fact_v : ∃ d p a : Int, quoV 5 7 9 1 noBank = (9, 1, d, p, a) := ⟨_, _, _, quoV_ok fact_q⟩
theorem fact_s : surE (pwZ 64 5) (quoV 5 7 9 1 noBank) 9 [] [(0, [0])] = 0 :=
  (sur_own (x := 5) (k := 7) (n := 9) (m := 1) (es := []) (rl := [(0, [0])]) fact_q rfl rfl).2 (by decide)
theorem sure_all {pub nn : Int} {q : Int × Int × Int × Int × Int} {es : List (Int × Int)} {rl : List (Int × List Int)} (h : surE pub q nn es rl = 0) :
    telE q (repV es) = 0 ∧ telB q (repV es) = true ∧ fitE rl (repV es) = 0 ∧ fitA rl (repV es) = true ∧ q.1 = nn ∧ chqE pub q nn = 0 := by
  obtain ⟨h1, h2, h3, h4, h5, h6⟩ := sur_zero h
  have hfq : fitQ q nn = true := by
    cases hq : fitQ q nn with
    | true => rfl
    | false => rw [chqE_no hq] at h1; cases h1
  obtain ⟨_, _, g3, g4⟩ := fitQ_iff.1 hfq
  have hrg : rigQ pub q = 0 := by
    apply Decidable.byContradiction
    intro hn
    rw [chqE_rig hfq hn] at h1
    exact hn h1
  have hnn : q.1 = nn := by
    apply Decidable.byContradiction
    intro hn
    rw [chqE_else hfq hrg hn] at h1
    cases h1
  have ht : telE q (repV es) = 0 := (telE_ok g3).trans (digE_ok (repV_ok es) g4)
  have hf : fitE rl (repV es) = 0 := (fitE_ok h3).trans (bankE_ok (repV_ok es))
  exact ⟨ht, by rw [telB_ok ht, h4]; exact decide_eq_true rfl, hf, (fitA_ok hf).trans h6, hnn, h1⟩
/-- A list of one rule, just laid. -/
theorem one_rule (w : World) : RulesIn ((w.alloc (.cells #[.int .i64 0] 3)).alloc (.cells #[.int .i64 0, .slice (some ⟨w.heap.size, 0, none⟩) 1 1] 41)) (some ⟨w.heap.size + 1, 0, none⟩) [(0, .slice (some ⟨w.heap.size, 0, none⟩) 1 1, [0])] := by
  have h0 : ((w.alloc (.cells #[.int .i64 0] 3)).alloc (.cells #[.int .i64 0, .slice (some ⟨w.heap.size, 0, none⟩) 1 1] 41)).heap[w.heap.size]? = some (.cells #[.int .i64 0] 3) := blk_keep (blk_new _ _) _
  have h1 : ((w.alloc (.cells #[.int .i64 0] 3)).alloc (.cells #[.int .i64 0, .slice (some ⟨w.heap.size, 0, none⟩) 1 1] 41)).heap[w.heap.size + 1]? = some (.cells #[.int .i64 0, .slice (some ⟨w.heap.size, 0, none⟩) 1 1] 41) := blk_n (by simp) _
  refine ⟨Or.inr ⟨w.heap.size + 1, 0, rfl, fun k x hx j v hv => ?_⟩, fun c hc => ?_⟩
  · have hk : k = 0 := by
      rcases k with _ | k
      · rfl
      · simp at hx
    subst hk
    simp at hx
    subst hx
    rw [cell_of_row _ _ _ _ _ _ h1]
    match j, hv with
    | 0, hv => cases hv; rfl
    | 1, hv => cases hv; rfl
    | j + 2, hv => simp [ruleV] at hv
  · have : c = (0, .slice (some ⟨w.heap.size, 0, none⟩) 1 1, [0]) := by simpa using hc
    subst this
    exact ⟨some ⟨w.heap.size, 0, none⟩, 1, rfl, by show 1 ≤ maxLen; unfold maxLen; omega, (fun h => by cases h), Row.one _ _ _ (by rw [cell_of_row _ _ _ _ _ _ h0]; rfl)⟩

set_option maxRecDepth 20000 in
set_option maxHeartbeats 4000000 in
theorem walk (SL : SureLaw) (RP : Event.ReplayLaw) (x k n mask : Int) (a : Option Addr) (es : List (Int × Int)) (ne ce : Nat) (ar : Option Addr) (rl : List (Int × Value × List Int)) (nr cr : Nat) (q0 q1 q2 q3 q4 other : Int) (w : World)
    (hn : ne = es.length) (hm : ne ≤ maxLen) (hr : RRow 2 evV w a es) (hnr : nr = rl.length) (hmr : nr ≤ maxLen) (hcr : nr ≤ cr) (hrr : RulesIn w ar rl) :
    Calls Try.prog 3 #[.int .i64 x, .int .i64 k, .int .i64 n, .int .i64 mask, .slice a ne ce, .slice ar nr cr, .agg #[.int .i64 q0, .int .i64 q1, .int .i64 q2, .int .i64 q3, .int .i64 q4], .int .i64 other] w fun e w' => e = .returned (.bool true) ∧ Below w.heap.size w w' := by
  have HB0 := hide (below_new w (.cells #[.int .i64 q0, .int .i64 q1, .int .i64 q2, .int .i64 q3, .int .i64 q4] 27))
  have HG0 := hide (blk_new w (.cells #[.int .i64 q0, .int .i64 q1, .int .i64 q2, .int .i64 q3, .int .i64 q4] 27))
  have RL := hide (fun (W : World) (h : Below w.heap.size w W) => RP a es ne ce W hn hm (hr.below h))
  have S0 := hide (fun (ar0 : Option Addr) (v : Value) (W : World) (h : RulesIn W ar0 [(0, v, [0])]) => (show Calls Try.prog 8 #[.int .i64 (pwZ 64 5), .agg (quoC (quoV 5 7 9 1 noBank)), .int .i64 9, .slice none 0 0, .slice ar0 1 1] W fun e w' => e = .returned .nilIface ∧ Below W.heap.size W w' from by
    have h1 := SL (pwZ 64 5) (quoV 5 7 9 1 noBank) 9 none [] 0 0 ar0 [(0, v, [0])] 1 1 W rfl (by unfold maxLen; omega) (RRow.nil _ _) rfl (by unfold maxLen; omega) (by omega) h
    rw [show surE (pwZ 64 5) (quoV 5 7 9 1 noBank) 9 [] (rulesL [(0, v, [0])]) = 0 from fact_s] at h1
    exact h1))
  have SU := hide (fun (pub : Int) (q : Int × Int × Int × Int × Int) (nn : Int) (W : World) (h : Below w.heap.size w W) => SL pub q nn a es ne ce ar rl nr cr W hn hm (hr.below h) hnr hmr hcr (hrr.below h))
  have MS := hide (fun (W : World) (h : Below w.heap.size w W) => Rule.mask_any ar rl nr cr W hnr hmr hcr (hrr.below h))
  have FT := hide (fun (W : World) (h : Below w.heap.size w W) => Rule.fits_any ar rl nr cr (repV es) _ W hnr hmr hcr (hrr.below h) rfl (repV_len es))
  have M1 := hide (fun W => Quote.make_any 5 7 9 1 noBank #[.int .i64 0, .int .i64 0, .int .i64 0, .int .i64 0, .int .i64 0, .int .i64 0, .int .i64 0, .int .i64 0] W rfl rfl)
  have MK := hide (fun W => Quote.make_any x k n mask (repV es) _ W rfl (repV_len es))
  have CK := hide (fun pub W => Quote.check_any pub (q0, q1, q2, q3, q4) other W)
  have TL := hide (fun W => Quote.tells_any (q0, q1, q2, q3, q4) (repV es) _ W rfl (repV_len es))
  have P5 := hide (fun W => Key.public_ok 5 W (by decide))
  clear SL RP hn hm hr hnr hmr hcr hrr
  cases hs : secB x with
  | false =>
    have PB := hide (fun W => Key.public_no x W hs)
    go_enter Try.func3, Try.ntmps3
    go_wp2_with (fail)
    refine (PB.out _).mono ?_
    rintro e w1 ⟨rfl, hw⟩
    rw [hw]
    clear hw
    go_wp2
    go_ret
    exact ⟨rfl, HB0.out⟩
  | true =>
    have PB := hide (fun W => Key.public_ok x W hs)
    go_enter Try.func3, Try.ntmps3
    go_wp2_with (fail)
    refine (PB.out _).mono ?_
    rintro e w1 ⟨rfl, hw⟩
    rw [hw]
    clear hw
    go_wp2_with (fail)
    refine (RL.out _ HB0.out).mono ?_
    rintro e w1 ⟨rfl, hb1⟩
    have HK1 : Hid (Kept w (q0, q1, q2, q3, q4) w1.heap.size (bankC (repP es)) (w1.alloc (.cells (bankC (repP es)) 33))) := ⟨(below_on HB0.out hb1).trans ((below_new _ _).mono (below_on HB0.out hb1).size), blk_keep (blk_below HG0.out hb1) _, blk_new _ _⟩
    clear hb1 RL HB0 HG0
    have H1 := hide (Bank.bankC_one (repP es))
    have HSZ := hide (show (bankC (repP es)).size = 8 by rw [bankC_size]; unfold repP; split; exact repV_len es; rfl)
    by_cases hev : evE es = 0
    · have eR : repP es = repV es := if_pos hev
      rw [eR] at H1 HSZ HK1 ⊢
      rw [hev, errV_zero]
      have HOE := hide hev
      have SO := hide (fun (hq : quoE x k n mask (repV es) = 0) (hrl : rulesE (rulesL rl) = 0) => sur_own hq hev hrl)
      have HA := hide (maskV_bit (rl := rulesL rl))
      have QS := hide (fun (hq : quoE x k n mask (repV es) = 0) => digE_zero (quoE_zero hq).2.1)
      have FE := hide (fun (h : rulesE (rulesL rl) = 0) => (show fitE (rulesL rl) (repV es) = 0 ∧ fitA (rulesL rl) (repV es) = fitsB (rulesL rl) (repV es) from by
        have h1 : fitE (rulesL rl) (repV es) = 0 := (fitE_ok h).trans (bankE_ok (repV_ok es))
        exact ⟨h1, fitA_ok h1⟩))
      have SZ := hide (fun (h : surE (pwZ 64 x) (q0, q1, q2, q3, q4) other es (rulesL rl) = 0) => sure_all h)
      generalize hdc : bankC (repV es) = dc at *
      clear eR hdc
      rw [fact_q, errV_zero] at M1
      obtain ⟨f2, f3, f4, hf⟩ := fact_v
      rw [hf] at M1 S0
      unfold quoC at M1 S0
      simp only [] at M1 S0
      go_wp2_with ((with_reducible refine Bank.wpl_store_new 19 48 _ _ ?_ ?_ ?_ ?_ Bank.noBank_size HSZ.out H1.out ?_); rfl; rfl; rfl; rfl)
      refine (M1.out _).mono ?_
      rintro e w2 ⟨rfl, hb2⟩
      have HK2 := hide ((HK1.out.below hb2).below (below_new w2 (.cells #[.int .i64 9, .int .i64 1, .int .i64 f2, .int .i64 f3, .int .i64 f4] 27)))
      clear hb2 HK1 M1
      go_wp2_with (fail)
      refine (P5.out _).mono ?_
      rintro e w3 ⟨rfl, hw⟩
      rw [hw]
      clear hw P5
      go_wp2_with (fail)
      have hR := one_rule (w2.alloc (.cells #[.int .i64 9, .int .i64 1, .int .i64 f2, .int .i64 f3, .int .i64 f4] 27))
      have hz2 : (w2.alloc (.cells #[.int .i64 9, .int .i64 1, .int .i64 f2, .int .i64 f3, .int .i64 f4] 27)).heap.size = w2.heap.size + 1 := by simp
      rw [hz2] at hR
      have HK3 := hide ((HK2.out.below (below_new _ (.cells #[.int .i64 0] 3))).below (below_new _ (.cells #[.int .i64 0, .slice (some ⟨w2.heap.size + 1, 0, none⟩) 1 1] 41)))
      refine (S0.out _ _ _ hR).mono ?_
      rintro e w4 ⟨rfl, hb4⟩
      have HK4 := hide (HK3.out.below hb4)
      clear hb4 HK3 HK2 hR hz2 S0 hf
      obtain ⟨x0, x1, x2, x3, x4⟩ := quin_cells HK4.out.2.1
      have SU1 := hide (SU.out (pwZ 64 x) (q0, q1, q2, q3, q4) other)
      generalize surE (pwZ 64 x) (q0, q1, q2, q3, q4) other es (rulesL rl) = se at *
      go_upto_region 11 with (fail)
      go_cut [81, 82] (fun _ s82 w' => s82 = .bool (decide (se = 0)) ∧ Hid (Kept w (q0, q1, q2, q3, q4) w1.heap.size dc w'))
      case first =>
        go_wp2_with (fail)
        refine (SU1.out _ HK4.out.1).mono ?_
        rintro e w5 ⟨rfl, hb5⟩
        have HK5 := hide (HK4.out.below hb5)
        clear hb5 HK4 x0 x1 x2 x3 x4
        by_cases h0 : se = 0
        · subst h0
          rw [errV_zero]
          go_wp2
          go_meet
          exact ⟨rfl, HK5⟩
        · rw [errV_no h0]
          have hd := decide_eq_false h0
          go_wp2
          go_meet
          exact ⟨by rw [hd], HK5⟩
      case rest =>
      obtain ⟨rfl, HK5⟩ := hcut
      clear HK4 x0 x1 x2 x3 x4 SU1
      obtain ⟨x0, x1, x2, x3, x4⟩ := quin_cells HK5.out.2.1
      go_upto_if 82 with (fail)
      go_cut [24, 25, 26, 27, 82] (fun _ _ _ _ _ w' => Hid (Kept w (q0, q1, q2, q3, q4) w1.heap.size dc w'))
      case first =>
        by_cases h0 : se = 0
        · obtain ⟨t1, t2, t3, t4, t5, t6⟩ := SZ.out h0
          have hd := decide_eq_true h0
          have hqo : q0 = other := t5
          have CK1 := hide (fun W => CK.out (pwZ 64 x) W)
          rw [t6, errV_zero] at CK1
          rw [t1, t2, errV_zero] at TL
          rw [t3, t4, errV_zero] at FT
          unfold quoC at TL CK1
          simp only [] at TL CK1
          rw [hd]
          clear t1 t2 t3 t4 t5 t6 SZ hd h0 CK
          subst hqo
          have HD5 := hide HK5.out.2.2
          go_wp2_with ((with_reducible refine Bank.wpl_load 19 ?_ ?_ _ ?_ _ _ HD5.out HSZ.out ?_); rfl; rfl; rfl)
          refine (TL.out _).mono ?_
          rintro e w6 ⟨rfl, hb6⟩
          have HK6 := hide (HK5.out.below hb6)
          clear hb6 HK5 HD5 x0 x1 x2 x3 x4
          have HD6 := hide HK6.out.2.2
          go_wp2_with ((with_reducible refine Bank.wpl_load 19 ?_ ?_ _ ?_ _ _ HD6.out HSZ.out ?_); rfl; rfl; rfl)
          refine (FT.out _ HK6.out.1).mono ?_
          rintro e w7 ⟨rfl, hb7⟩
          have HK7 := hide (HK6.out.below hb7)
          clear hb7 HK6 HD6
          obtain ⟨x0, x1, x2, x3, x4⟩ := quin_cells HK7.out.2.1
          go_wp2_with (fail)
          refine (CK1.out _).mono ?_
          rintro e w8 ⟨rfl, hb8⟩
          have HK8 := hide (HK7.out.below hb8)
          clear hb8 HK7 x0 x1 x2 x3 x4
          go_wp2
          go_meet
          exact HK8
        · have hd := decide_eq_false h0
          rw [hd]
          go_wp2
          go_meet
          exact HK5
      case rest =>
      have HK6 := hcut
      clear hcut HK5 x0 x1 x2 x3 x4 SZ CK TL se
      obtain ⟨wa, hwa⟩ : ∃ wa, wa = wc := ⟨_, rfl⟩
      subst hwa
      have HD6 := hide HK6.out.2.2
      go_wp2_with ((with_reducible refine Bank.wpl_load 19 ?_ ?_ _ ?_ _ _ HD6.out HSZ.out ?_); rfl; rfl; rfl)
      refine (MK.out _).mono ?_
      rintro e w7 ⟨rfl, hb7⟩
      have HK7 := hide (HK6.out.below hb7)
      clear hb7 HK6 HD6 MK
      rcases quoE_is x k n mask (repV es) with hE | hE
      · obtain ⟨m0, m1⟩ := isMask_iff.1 (QS.out hE).2
        have SO1 := hide (fun h => SO.out hE h)
        have SU1 := hide (SU.out (pwZ 64 x) (quoV x k n mask (repV es)) n)
        have SR := hide (fun (h : surE (pwZ 64 x) (quoV x k n mask (repV es)) n es (rulesL rl) = 0) => (sur_zero h).2.2.1)
        rw [hE, errV_zero]
        obtain ⟨⟨v0, v1, v2, v3, v4⟩, hv⟩ : ∃ v, v = quoV x k n mask (repV es) := ⟨_, rfl⟩
        rw [← hv] at SO1 SU1 SR ⊢
        unfold quoC
        simp only [] at SU1 ⊢
        clear hv hE SO QS
        have HK8 := hide (HK7.out.below (below_new w7 (.cells #[.int .i64 v0, .int .i64 v1, .int .i64 v2, .int .i64 v3, .int .i64 v4] 27)))
        clear HK7
        generalize surE (pwZ 64 x) (v0, v1, v2, v3, v4) n es (rulesL rl) = se at *
        go_wp2_with (fail)
        refine (SU1.out _ HK8.out.1).mono ?_
        rintro e w8 ⟨rfl, hb8⟩
        have HK9 := hide (HK8.out.below hb8)
        clear hb8 HK8 SU1
        obtain ⟨ev, hev2⟩ : ∃ v, v = errV 51 se := ⟨_, rfl⟩
        have HEV := hide hev2
        rw [← hev2]
        clear hev2
        go_wp2_with (fail)
        refine (MS.out _ HK9.out.1).mono ?_
        rintro e w9 ⟨rfl, hb9⟩
        have HKA := hide (HK9.out.below hb9)
        clear hb9 HK9 MS
        have HDA := hide HKA.out.2.2
        go_wp2_with ((with_reducible refine Bank.wpl_load 19 ?_ ?_ _ ?_ _ _ HDA.out HSZ.out ?_); rfl; rfl; rfl)
        refine (FT.out _ HKA.out.1).mono ?_
        rintro e wA ⟨rfl, hbA⟩
        have HKB := hide (HKA.out.below hbA)
        clear hbA HKA HDA FT
        by_cases hrl : rulesE (rulesL rl) = 0
        · obtain ⟨g1, g2⟩ := FE.out hrl
          have a0 := (HA.out hrl).1.1
          have a1 := (HA.out hrl).1.2
          have SO2 := hide (SO1.out hrl)
          rw [hrl, g1, g2, errV_zero, maskA_ok hrl]
          have AA := hide (fun (i : Nat) (W : World) (h : i ≤ 8) => Ref.asks_any (maskV (rulesL rl)) i W a0 a1 h)
          have AB := hide (fun (i : Nat) (W : World) (h : i ≤ 8) => Ref.asks_any mask i W m0 m1 h)
          clear hrl g1 g2 FE HA SO1 SR
          generalize fitsB (rulesL rl) (repV es) = fb at *
          generalize maskV (rulesL rl) = am at *
          go_wp2_with (fail)
          go_loop [34, 35, 36, 37] (fun s34 s35 _ _ => ∃ i : Nat, i ≤ 8 ∧ s35 = .int .i64 i ∧ s34 = .bool (allB mask am i)) (fun _ i _ _ => 8 - (intOf i).toNat)
          case atStart => exact ⟨0, by omega, rfl, rfl⟩
          case round =>
            obtain ⟨i, hi, rfl, rfl⟩ := hrel
            by_cases hlt : i < 8
            · have hz : (i : Int) < 8 := by omega
              have hsu := hide (allB_succ mask am i)
              cases hba : bit am i <;> cases hbm : bit mask i <;> cases hai : allB mask am i
              all_goals
                go_wp2_with (first
                  | (go_at_call_of 13 (Value.int .i64 am); refine (AA.out i _ (by omega)).mono ?_; rintro e w' ⟨rfl, rfl⟩)
                  | (go_at_call_of 13 (Value.int .i64 mask); refine (AB.out i _ (by omega)).mono ?_; rintro e w' ⟨rfl, rfl⟩))
                go_round
                case rel => exact ⟨i + 1, by omega, by go_num, by rw [hsu.out, hai, hba, hbm]; rfl⟩
                case measure => simp [intOf]; omega
            · have hi8 : i = 8 := by omega
              subst hi8
              have hz : ¬ ((8 : Nat) : Int) < 8 := by omega
              generalize allB mask am 8 = ai at *
              by_cases h0 : se = 0
              · have h1 := SO2.out.1 h0
                have hE2 : ev = .nilIface := by rw [HEV.out, h0]; rfl
                subst hE2
                rw [Bool.and_eq_true] at h1
                obtain ⟨rfl, rfl⟩ := h1
                go_wp2
                go_ret
                exact ⟨rfl, HKB.out.1⟩
              · have h1 : (ai && fb) = false := by
                  cases hc : (ai && fb) with
                  | false => rfl
                  | true => exact absurd (SO2.out.2 hc) h0
                have hE2 : ev = .iface 51 (.int .i64 se) := by rw [HEV.out]; exact errV_no h0
                subst hE2
                clear SO2
                cases ai with
                | true =>
                  obtain rfl : fb = false := h1
                  go_wp2
                  go_ret
                  exact ⟨rfl, HKB.out.1⟩
                | false =>
                  go_wp2
                  go_ret
                  exact ⟨rfl, HKB.out.1⟩
        · have h0 : ¬ se = 0 := fun h => hrl (SR.out h)
          have hE2 : ev = .iface 51 (.int .i64 se) := by rw [HEV.out]; exact errV_no h0
          subst hE2
          rw [errV_no hrl]
          clear SO1 SR FE HA
          go_wp2
          go_ret
          exact ⟨rfl, HKB.out.1⟩
      · rw [hE, errV_one, quoV_no (by rw [hE]; decide)]
        unfold quoC
        simp only []
        clear hE
        go_wp2
        go_ret
        exact ⟨rfl, (HK7.out.below (below_new _ _)).1⟩
    · rw [errV_no hev]
      generalize bankC (repP es) = dc at *
      go_wp2_with ((with_reducible refine Bank.wpl_store_new 19 48 _ _ ?_ ?_ ?_ ?_ Bank.noBank_size HSZ.out H1.out ?_); rfl; rfl; rfl; rfl)
      go_ret
      exact ⟨rfl, HK1.out.1⟩
end Go.Proofs.Ytdaedmcmcapjkaa.JudgeMeans
