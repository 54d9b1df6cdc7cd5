/-
  The walk of stairlaw2.KeeperOnce: it returns true, and memory that was there stays as it was.
-/
import Derived.Test.YtidnjnhmkhekeaaDoorQKeeperOb
import Derived.Test.YtidnjnhmkhekeaaDoorQJudgeMeansMath
import Derived.Test.YtidnjnhmkhekeaaDoorQJudgeLaw
import Derived.Test.YtidnjnhmkhekeaaDoorQEventLaw
import Derived.Test.YtidnjnhmkhekeaaDoorQQuote2
import Derived.Test.YtidnjnhmkhekeaaDoorQAs
import Derived.Deep.DeepCutAuto
namespace Go.Proofs.YtidnjnhmkhekeaaDoor.KeeperOnce
open Go.ChangeShapes Go.WideShapes Go.ChangeAt Go.RowKit
open Go.Proofs.YtidnjnhmkhekeaaDoor.M Go.Proofs.YtidnjnhmkhekeaaDoor.Keeper
set_option linter.unusedVariables false

theorem errV_no {T : TypeId} {k : Int} (h : ¬ k = 0) : errV T k = .iface T (.int .i64 k) := if_neg h
theorem quo_any {x k n m n' : Int} {xs : List Int} (h : quoE x k n m xs = 0) (hn : isM n' = true) : quoE x k n' m xs = 0 := by
  obtain ⟨_, h2, h3, h4⟩ := quoE_zero h
  rw [quoE_go hn h2]
  exact sigC_ok h3 h4 (quoM_m _ _ _)
/-- The keeper of the fact ahead: it is asked, and given. -/
def k1 : KS := askT (newK 64 7 1 [])
theorem fact_q : quoE 1 9 7920 0 noBank = 0 := by
  rw [quoE_go (by decide) (digE_ok (by decide) (by decide))]
  exact sigC_ok (by decide) (by decide) (quoM_m _ _ _)
theorem fact_v : ∃ d p a : Int, quoV 1 9 7920 0 noBank = (7920, 0, d, p, a) := ⟨_, _, _, quoV_ok fact_q⟩
theorem fact_g : givE k1 (quoV 1 9 7920 0 noBank) [] = 0 := by
  have h1 : (quoV 1 9 7920 0 noBank).1 = 7920 := quo_num fact_q
  rw [givE_in (by rw [h1]; decide), h1]
  have h2 := (sur_own (x := 1) (k := 9) (n := 7920) (m := 0) (es := []) (rl := []) fact_q rfl rfl).2 (by decide)
  rw [show pwZ 64 1 = 64 by decide] at h2
  exact h2
theorem fact_o : givV k1 (quoV 1 9 7920 0 noBank) [] = 7 ∧ (givT k1 (quoV 1 9 7920 0 noBank) []).n = 1 := by
  refine ⟨by unfold givV; rw [if_pos fact_g]; rfl, ?_⟩
  show k1.n + (if givE k1 (quoV 1 9 7920 0 noBank) [] = 0 then 1 else 0) = 1
  rw [if_pos fact_g]
  rfl
/-- A question, answered: given just where it is sure, and no second time. -/
theorem once {s : KS} {q : Int × Int × Int × Int × Int} {es : List (Int × Int)} {n se : Int} (hx : s.xs = [n]) (hq : q.1 = n) (hs : surE s.pub q n es s.rl = se) :
    givE s q es = se ∧ givV s q es = (if se = 0 then s.sec else 0) ∧ (givT s q es).n = s.n + (if se = 0 then 1 else 0) ∧ (givT s q es).xs = [] := by
  have h1 : givE s q es = se := by rw [givE_in (by rw [hq, hx]; simp), hq]; exact hs
  refine ⟨h1, by unfold givV; rw [h1], ?_, ?_⟩
  · show s.n + (if givE s q es = 0 then 1 else 0) = _
    rw [h1]
  · show s.xs.erase q.1 = []
    rw [hq, hx]
    simp
theorem twice {s : KS} {q : Int × Int × Int × Int × Int} {es : List (Int × Int)} (hx : s.xs = []) : givE s q es = 5 ∧ givV s q es = 0 ∧ givT s q es = s := by
  have h : q.1 ∉ s.xs := by rw [hx]; simp
  exact ⟨givE_out h, givV_out h, givT_out h⟩

set_option maxRecDepth 20000 in
set_option maxHeartbeats 4000000 in
theorem walk {Kpr : World → Nat → Value → (Nat → Prop) → KS → Prop} (LK : Core Kpr) (AO : AskOk Kpr) (GV : GiveLaw Kpr) (GN : GivenLaw Kpr) (SL : Judge.SureLaw) (RP : Event.ReplayLaw)
    (x k sec seed : Int) (a : Option Addr) (es : List (Int × Int)) (ne ce : Nat) (ar : Option Addr) (rl : List (Int × Value × List Int)) (nr cr : Nat) (mask : Int) (w : World)
    (hn : ne = es.length) (hm : ne ≤ maxLen) (hr : RRow 2 evV w a es) (hnr : nr = rl.length) (hmr : nr ≤ maxLen) (hcr : nr ≤ cr) (hrr : RulesIn w ar rl) (hg : As.Handle w) :
    Calls Tryd.prog 3 #[.int .i64 x, .int .i64 k, .int .i64 sec, .int .i64 seed, .slice a ne ce, .slice ar nr cr, .int .i64 mask] w fun e w' => e = .returned (.bool true) ∧ Below w.heap.size w w' := by
  have HLK := hide LK
  have HH := hide (fun (W : World) (h : Below w.heap.size w W) => hg.below h)
  have N1 := hide (sep_new HLK.out 64 7 1 none [] 0 0 rfl (by unfold maxLen; omega) (Nat.le_refl _) (RulesIn.nil _ _) (by decide) (Sep.nil (Below.refl w.heap.size w) (Nat.le_refl _)))
  have HAO := hide AO
  have HGN := hide GN
  have M1 := hide (fun W => Quote.make_any 1 9 7920 0 noBank #[.int .i64 0, .int .i64 0, .int .i64 0, .int .i64 0, .int .i64 0, .int .i64 0, .int .i64 0, .int .i64 0] W rfl rfl)
  have RL := hide (fun (W : World) (h : Below w.heap.size w W) => RP a es ne ce W hn hm (hr.below h))
  have SU := hide (fun (pub : Int) (q : Int × Int × Int × Int × Int) (nn : Int) (W : World) (h : Below w.heap.size w W) => SL pub q nn a es ne ce ar rl nr cr W hn hm (hr.below h) hnr hmr hcr (hrr.below h))
  have MK := hide (fun n W => Quote.make_any x k n mask (repV es) _ W rfl (repV_len es))
  have G0 := hide (fun (W : World) (p : Value) (S : Nat → Prop) (s : KS) (its : List (Thing w.heap.size)) (h : Sep w w.heap.size (kprI HLK.out w.heap.size p S s :: its) W) (q : Int × Int × Int × Int × Int) => sep_give GV h q none [] 0 0 rfl (by unfold maxLen; omega) (RRow.nil _ _))
  have G1 := hide (fun (W : World) (p : Value) (S : Nat → Prop) (s : KS) (its : List (Thing w.heap.size)) (h : Sep w w.heap.size (kprI HLK.out w.heap.size p S s :: its) W) (q : Int × Int × Int × Int × Int) => sep_give GV h q a es ne ce hn hm hr)
  have NO := hide (fun (pub : Int) (W : World) (hb : Below w.heap.size w W) (h : ¬ kprE pub sec seed (rulesL rl) = 0) => HLK.out.newNo pub sec seed ar rl nr cr W hnr hmr hcr (hrr.below hb) h)
  have NW := hide (fun (pub : Int) (W : World) (h : Sep w w.heap.size [] W) (hE : kprE pub sec seed (rulesL rl) = 0) => sep_new HLK.out pub sec seed ar rl nr cr hnr hmr hcr (hrr.below h.lo) hE h)
  rw [fact_q, errV_zero] at M1
  obtain ⟨f2, f3, f4, hf⟩ := fact_v
  have g1 := fact_g
  have g2 := fact_o.1
  have g3 := fact_o.2
  rw [hf] at M1 g1 g2 g3
  unfold quoC at M1
  simp only [] at M1
  have FG1 := hide g1
  have FG2 := hide g2
  have FG3 := hide g3
  clear LK AO GV GN SL RP hn hm hr hnr hmr hcr hrr hg hf g1 g2 g3
  go_enter Tryd.func3, Tryd.ntmps3
  go_wp2_with (fail)
  refine N1.out.mono ?_
  rintro e w1 ⟨p, S, rfl, hd1⟩
  have A1 := hide (sep_ask HAO.out hd1 (by unfold fullK newK; simp))
  rw [show stp 7919 (newK 64 7 1 (rulesL [])).la (newK 64 7 1 (rulesL [])).mn = 7920 by decide] at A1
  clear hd1 N1
  go_wp2_with (fail)
  refine A1.out.mono ?_
  rintro e w2 ⟨S2, rfl, hd2⟩
  have HD2 := hide hd2
  clear hd2 A1
  go_wp2_with (fail)
  refine (M1.out _).mono ?_
  rintro e w3 ⟨rfl, hb3⟩
  have HD3 := hide ((HD2.out.below hb3).below (below_new w3 (.cells #[.int .i64 7920, .int .i64 0, .int .i64 f2, .int .i64 f3, .int .i64 f4] 34)))
  clear HD2 hb3 M1
  have GG := hide (G0.out _ _ _ _ _ HD3.out (7920, 0, f2, f3, f4))
  rw [show askT (newK 64 7 1 (rulesL [])) = k1 from rfl, FG1.out, FG2.out, errV_zero] at GG
  go_wp2_with (fail)
  refine GG.out.mono ?_
  rintro e w4 ⟨S4, rfl, hd4⟩
  have GN1 := hide (sep_given HGN.out hd4)
  rw [FG3.out] at GN1
  clear hd4 HD3 GG G0 FG1 FG2 FG3
  go_wp2_with (fail)
  refine GN1.out.mono ?_
  rintro e w5 ⟨rfl, hd5⟩
  have HD5 := hide (Sep.tail hd5)
  clear hd5 GN1
  cases hs : secB x with
  | false =>
    have PB := hide (fun W => Key.public_no x W hs)
    go_wp2_with (fail)
    refine (PB.out _).mono ?_
    rintro e w6 ⟨rfl, hw⟩
    rw [hw]
    clear hw
    go_wp2
    go_ret
    exact ⟨rfl, HD5.out.lo⟩
  | true =>
  have PB := hide (fun W => Key.public_ok x W hs)
  clear hs
  go_wp2_with (fail)
  refine (PB.out _).mono ?_
  rintro e w6 ⟨rfl, hw⟩
  rw [hw]
  clear hw PB
  by_cases hE : kprE (pwZ 64 x) sec seed (rulesL rl) = 0
  · have NW1 := hide (NW.out (pwZ 64 x) _ HD5.out hE)
    have HE := hide (kprE_zero hE)
    clear NO NW hE HD5
    go_wp2_with (fail)
    refine NW1.out.mono ?_
    rintro e w7 ⟨p, S7, rfl, hd7⟩
    have HD7 := hide hd7
    clear hd7 NW1
    go_wp2_with (fail)
    refine (RL.out _ HD7.out.lo).mono ?_
    rintro e w8 ⟨rfl, hb8⟩
    have hz8 := Nat.le_trans HD7.out.hb hb8.size
    have HD8 := hide ((HD7.out.below hb8).allocz hz8 (.cells (bankC (repP es)) 38))
    clear hb8 RL HD7
    have H1 := hide (Bank.bankC_one (repP es))
    have HSZ := hide (show (bankC (repP es)).size = 8 by rw [bankC_size]; unfold repP; split; exact repV_len es; rfl)
    by_cases hev : evE es = 0
    · have eR : repP es = repV es := if_pos hev
      rw [eR] at H1 HSZ HD8 ⊢
      rw [hev, errV_zero]
      generalize hdc : bankC (repV es) = dc at *
      clear eR hdc
      have hbk := HD8.out.p0
      have hbk1 : (w8.alloc (.cells dc 38)).heap[w8.heap.size]? = some (.cells dc 38) := hbk
      have HBK := hide hbk1
      clear hbk hbk1
      go_wp2_with (first | ((with_reducible refine Bank.wpl_store_new 25 101 _ _ ?_ ?_ ?_ ?_ Bank.noBank_size HSZ.out H1.out ?_); rfl; rfl; rfl; rfl) | ((with_reducible refine Bank.wpl_load 25 ?_ ?_ _ ?_ _ _ HBK.out HSZ.out ?_); rfl; rfl; rfl))
      refine (MK.out seed _).mono ?_
      rintro e w9 ⟨rfl, hb9⟩
      have HD9 := hide ((HD8.out.below hb9).perm (List.Perm.swap _ _ _))
      clear hb9 HD8 HBK
      rcases quoE_is x k seed mask (repV es) with hq | hq
      · have HQ := hide (fun (n' : Int) (h : isM n' = true) => quo_any hq h)
        rw [hq, errV_zero]
        obtain ⟨⟨v0, v1, v2, v3, v4⟩, hv⟩ : ∃ v, v = quoV x k seed mask (repV es) := ⟨_, rfl⟩
        rw [← hv]
        unfold quoC
        simp only []
        clear hv hq
        have HDA := hide (HD9.out.below (below_new w9 (.cells #[.int .i64 v0, .int .i64 v1, .int .i64 v2, .int .i64 v3, .int .i64 v4] 34)))
        have GE := hide (G1.out _ _ _ _ _ HDA.out (v0, v1, v2, v3, v4))
        obtain ⟨t1, t2, t3⟩ := twice (s := newK (pwZ 64 x) sec seed (rulesL rl)) (q := (v0, v1, v2, v3, v4)) (es := es) rfl
        rw [t1, t2, t3] at GE
        clear HDA HD9 t1 t2 t3
        go_wp2_with (fail)
        refine GE.out.mono ?_
        rintro e wB ⟨SB, rfl, hdB⟩
        have HDB := hide hdB
        clear hdB GE
        go_wp2_with (fail)
        refine (As.same_err 5 5 _ (HH.out _ HDB.out.lo)).mono ?_
        rintro e wC ⟨rfl, hbC⟩
        have HDC := hide (HDB.out.below hbC)
        clear hbC HDB
        have AK := hide (sep_ask HAO.out HDC.out (by unfold fullK newK; simp))
        have hM : isM (stp 7919 seed 0) = true := isM_iff.2 ⟨stp_ge _ _ _, stp_lt _ _ _⟩
        have hQn := HQ.out _ hM
        have hx1 : (askT (newK (pwZ 64 x) sec seed (rulesL rl))).xs = [stp 7919 seed 0] := rfl
        have hp1 : (askT (newK (pwZ 64 x) sec seed (rulesL rl))).pub = pwZ 64 x ∧ (askT (newK (pwZ 64 x) sec seed (rulesL rl))).rl = rulesL rl ∧ (askT (newK (pwZ 64 x) sec seed (rulesL rl))).sec = sec ∧ (askT (newK (pwZ 64 x) sec seed (rulesL rl))).n = 0 := ⟨rfl, rfl, rfl, rfl⟩
        rw [show stp 7919 (newK (pwZ 64 x) sec seed (rulesL rl)).la (newK (pwZ 64 x) sec seed (rulesL rl)).mn = stp 7919 seed 0 from rfl] at AK
        generalize askT (newK (pwZ 64 x) sec seed (rulesL rl)) = s1 at *
        generalize stp 7919 seed 0 = nn at *
        have hnum := quo_num hQn
        have MK1 := hide (MK.out nn)
        rw [hQn, errV_zero] at MK1
        have SU1 := hide (SU.out (pwZ 64 x) (quoV x k nn mask (repV es)) nn)
        have ON := hide (once (s := s1) (q := quoV x k nn mask (repV es)) (es := es) (n := nn) (se := surE (pwZ 64 x) (quoV x k nn mask (repV es)) nn es (rulesL rl)) hx1 hnum (by rw [hp1.1, hp1.2.1]))
        obtain ⟨⟨u0, u1, u2, u3, u4⟩, hu⟩ : ∃ u, u = quoV x k nn mask (repV es) := ⟨_, rfl⟩
        rw [← hu] at MK1 SU1 ON
        have HP3 := hide hp1.2.2
        unfold quoC at MK1
        simp only [] at MK1 SU1
        clear hu hnum hQn hM hx1 hp1 HQ MK SU
        generalize surE (pwZ 64 x) (u0, u1, u2, u3, u4) nn es (rulesL rl) = se at *
        go_wp2_with (fail)
        refine AK.out.mono ?_
        rintro e wD ⟨SD, rfl, hdD⟩
        have HDD := hide hdD
        have hbkD := Sep.p1 hdD
        clear hdD AK HDC
        have hbkD1 : wD.heap[w8.heap.size]? = some (.cells dc 38) := hbkD
        have HBK := hide hbkD1
        clear hbkD hbkD1
        go_wp2_with ((with_reducible refine Bank.wpl_load 25 ?_ ?_ _ ?_ _ _ HBK.out HSZ.out ?_); rfl; rfl; rfl)
        refine (MK1.out _).mono ?_
        rintro e wE ⟨rfl, hbE⟩
        have hzE := Nat.le_trans HDD.out.hb hbE.size
        have HDE := hide (((HDD.out.below hbE).allocz hzE (.cells #[.int .i64 u0, .int .i64 u1, .int .i64 u2, .int .i64 u3, .int .i64 u4] 34)).perm (List.Perm.swap _ _ _))
        clear hbE HDD HBK MK1
        go_wp2_with (fail)
        refine (SU1.out _ HDE.out.lo).mono ?_
        rintro e wF ⟨rfl, hbF⟩
        have HDF := hide (HDE.out.below hbF)
        clear hbF HDE SU1
        have hqF : wF.heap[wE.heap.size]? = some (.cells #[.int .i64 u0, .int .i64 u1, .int .i64 u2, .int .i64 u3, .int .i64 u4] 34) := Sep.p1 HDF.out
        obtain ⟨x0, x1, x2, x3, x4⟩ := quin_cells hqF
        obtain ⟨o1, o2, o3, o4⟩ := ON.out
        have GF := hide (G1.out _ _ _ _ _ HDF.out (u0, u1, u2, u3, u4))
        rw [o1, o2] at GF
        have HN := hide o3
        have HX := hide o4
        have h3 := HP3.out
        rw [h3.1] at GF
        rw [h3.2] at HN
        clear o1 o2 o3 o4 ON hqF h3 HP3
        generalize givT s1 (u0, u1, u2, u3, u4) es = s2 at *
        obtain ⟨ev, hev2⟩ : ∃ v, v = errV 77 se := ⟨_, rfl⟩
        have HEV := hide hev2
        rw [← hev2] at GF ⊢
        obtain ⟨gv, hgv⟩ : ∃ v, v = (if se = 0 then sec else 0) := ⟨_, rfl⟩
        have HGVV := hide hgv
        rw [← hgv] at GF
        clear hev2 hgv
        go_wp2_with (fail)
        refine GF.out.mono ?_
        rintro e wG ⟨SG, rfl, hdG⟩
        have HDG := hide hdG
        clear hdG GF HDF x0 x1 x2 x3 x4
        have hqG : wG.heap[wE.heap.size]? = some (.cells #[.int .i64 u0, .int .i64 u1, .int .i64 u2, .int .i64 u3, .int .i64 u4] 34) := Sep.p1 HDG.out
        obtain ⟨x0, x1, x2, x3, x4⟩ := quin_cells hqG
        obtain ⟨t1, t2, t3⟩ := twice (s := s2) (q := (u0, u1, u2, u3, u4)) (es := es) HX.out
        have GH := hide (G1.out _ _ _ _ _ HDG.out (u0, u1, u2, u3, u4))
        rw [t1, t2, t3] at GH
        clear t1 t2 t3 hqG HX G1
        go_wp2_with (fail)
        refine GH.out.mono ?_
        rintro e wI ⟨SI, rfl, hdI⟩
        have HDI := hide hdI
        clear hdI GH HDG x0 x1 x2 x3 x4
        go_wp2_with (fail)
        refine (As.same_err 5 5 _ (HH.out _ HDI.out.lo)).mono ?_
        rintro e wJ ⟨rfl, hbJ⟩
        have HDJ := hide (HDI.out.below hbJ)
        clear hbJ HDI
        have GN1 := hide (sep_given HGN.out HDJ.out)
        clear HDJ
        by_cases h0 : se = 0
        · have e1 : ev = .nilIface := by rw [HEV.out, h0]; rfl
          have e2 : gv = sec := by rw [HGVV.out, if_pos h0]
          have e3 := HN.out
          rw [if_pos h0] at e3
          rw [e3] at GN1
          subst e1 e2
          clear e3 h0 HN HEV HGVV
          go_wp2_with (fail)
          refine GN1.out.mono ?_
          rintro e wK ⟨rfl, hdK⟩
          have HDK := hide hdK
          clear hdK GN1
          go_wp2
          go_ret
          exact ⟨rfl, HDK.out.lo⟩
        · have e1 : ev = .iface 77 (.int .i64 se) := by rw [HEV.out]; exact errV_no h0
          have e3 := HN.out
          rw [if_neg h0] at e3
          rw [e3] at GN1
          subst e1
          clear e3 HN HEV HGVV
          go_wp2_with (fail)
          refine GN1.out.mono ?_
          rintro e wK ⟨rfl, hdK⟩
          have HDK := hide hdK
          clear hdK GN1
          go_wp2
          go_ret
          exact ⟨rfl, HDK.out.lo⟩
      · rw [hq, errV_one, quoV_no (by rw [hq]; decide)]
        unfold quoC
        simp only []
        clear hq
        go_wp2
        go_ret
        exact ⟨rfl, (HD9.out.below (below_new _ _)).lo⟩
    · rw [errV_no hev]
      generalize bankC (repP es) = dc at *
      go_wp2_with ((with_reducible refine Bank.wpl_store_new 25 101 _ _ ?_ ?_ ?_ ?_ Bank.noBank_size HSZ.out H1.out ?_); rfl; rfl; rfl; rfl)
      go_ret
      exact ⟨rfl, HD8.out.lo⟩
  · have NO1 := hide (NO.out (pwZ 64 x) _ HD5.out.lo hE)
    rw [errV_no hE] at NO1
    clear NO NW
    go_wp2_with (fail)
    refine NO1.out.mono ?_
    rintro e w7 ⟨rfl, hb7⟩
    have HD7 := hide (HD5.out.below hb7)
    clear hb7
    go_wp2
    go_ret
    exact ⟨rfl, HD7.out.lo⟩
end Go.Proofs.YtidnjnhmkhekeaaDoor.KeeperOnce
