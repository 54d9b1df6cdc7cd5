/-
  The walk of stairlaw1.RuleSame: it returns true, and memory that was there stays as it was.
-/
import Derived.Test.YtldckkcahlpafaaRule2
import Derived.Test.YtldckkcahlpafaaBank4
namespace Go.Proofs.Ytldckkcahlpafaa.RuleSame
open Go.ChangeShapes Go.WideShapes Go.ChangeAt Go.RowKit
open Go.Proofs.Ytldckkcahlpafaa.M
set_option linter.unusedVariables false

theorem one {w : World} {b : Nat} {r : Int} {v : Value} {g : List Int} (h0 : w.cell? ⟨b, 0, none⟩ = some (.int .i64 r)) (h1 : w.cell? ⟨b, 1, none⟩ = some v) (hg : goodIn w (r, v, g)) : RulesIn w (some ⟨b, 0, none⟩) [(r, v, g)] := by
  refine ⟨Or.inr ⟨b, 0, rfl, fun k x hx j u hu => ?_⟩, fun c hc => ?_⟩
  · match k with
    | 0 =>
      simp at hx
      subst hx
      match j with
      | 0 => simp [ruleV] at hu; subst hu; exact h0
      | 1 => simp [ruleV] at hu; subst hu; exact h1
      | j + 2 => simp [ruleV] at hu
    | k + 1 => simp at hx
  · rw [List.mem_singleton.1 hc]; exact hg
theorem good_one {w : World} {b : Nat} {r x : Int} (h : w.cell? ⟨b, 0, none⟩ = some (.int .i64 x)) : goodIn w (r, .slice (some ⟨b, 0, none⟩) 1 1, [x]) :=
  ⟨some ⟨b, 0, none⟩, 1, rfl, by unfold maxLen; simp, fun h => (by cases h), Row.one b x w h⟩
theorem good_none {w : World} {r : Int} : goodIn w (r, .slice none 0 0, []) := ⟨none, 0, rfl, by unfold maxLen; simp, fun _ => rfl, Or.inl rfl⟩
theorem one_cell {w : World} {c : Int × Value × List Int} (h : goodIn w c) : ∀ u ∈ ruleV c, u.oneCell' = true := by
  obtain ⟨ad, cap, e, _⟩ := h
  intro u hu
  simp [ruleV] at hu
  rcases hu with rfl | rfl
  · rfl
  · rw [e]; rfl
theorem blk_n {W : World} {k : Nat} (h : W.heap.size = k) (o : Obj) : (W.alloc o).heap[k]? = some o := by subst h; exact blk_new _ _
theorem fact_one (k : Nat) : fitA (rulesL [(2, .slice (some ⟨k, 0, none⟩) 1 1, [0])]) noBank = true ∧ fitE (rulesL [(2, .slice (some ⟨k, 0, none⟩) 1 1, [0])]) noBank = 0 := by
  show fitA [(2, [0])] noBank = true ∧ fitE [(2, [0])] noBank = 0
  decide
theorem fact_two : fitA (rulesL [(2, .slice none 0 0, [])]) noBank = false ∧ fitE (rulesL [(2, .slice none 0 0, [])]) noBank = 0 := by
  show fitA [(2, [])] noBank = false ∧ fitE [(2, [])] noBank = 0
  decide
theorem fitE_zero {l : List (Int × List Int)} {b : List Int} (h : fitE l b = 0) : rulesE l = 0 ∧ bankE b = 0 := by
  by_cases h1 : rulesE l = 0
  · exact ⟨h1, (fitE_ok h1).symm.trans h⟩
  · exact absurd ((fitE_no h1).symm.trans h) h1
theorem bankE_zero {b : List Int} (h : bankE b = 0) : okAll b = true := by
  cases h1 : okAll b with
  | true => rfl
  | false => rw [bankE_bad h1] at h; cases h
theorem rulesL_snoc (l : List (Int × Value × List Int)) (c : Int × Value × List Int) : rulesL (l ++ [c]) = rulesL l ++ [(c.1, c.2.2)] := by simp [rulesL]
theorem info_rule : (Try.prog.info? 38).map (fun i => (i.zero, i.size, i.bytes)) = some (some (.agg #[.int .i64 0, .slice none 0 0]), 2, 32) := by kernel_rfl
theorem cells_of {w : World} {b : Nat} {x y : Value} {t : TypeId} {fr : Nat × Nat} (h : w.heap[b]? = some (.cells #[x, y] t fr)) :
    w.cell? ⟨b, 0, none⟩ = some x ∧ w.cell? ⟨b, 1, none⟩ = some y := by
  refine ⟨?_, ?_⟩ <;> rw [cell_of_row w b _ _ t fr h] <;> rfl
/-- A rule more is no easier. -/
theorem more_fits {l : List (Int × List Int)} {c : Int × List Int} {b : List Int} (h : fitE (l ++ [c]) b = 0) (h2 : fitA (l ++ [c]) b = true) : fitsB l b = true ∧ 0 < c.2.length := by
  rw [fitA_ok h] at h2
  exact fits_more h2
theorem own_cap {w : World} {base : Nat} {e : TypeId} {v : Value} {xs : List (Int × Value × List Int)} (h : OwnR 2 ruleV w base e v xs) {a : Option Addr} {k c : Nat} (hv : v = .slice a k c) : k ≤ c := by
  obtain ⟨_, h2⟩ := h
  rcases h2 with ⟨h3, _⟩ | ⟨_, _, _, h3, _, _, h4, _⟩
  · rw [hv] at h3; cases h3; exact Nat.le_refl _
  · rw [hv] at h3; cases h3; exact h4
/-- What the walk carries: both banks and the rule lie where they were laid, and all that was there is as it was. -/
def Kept (w0 : World) (bc cc : Array Value) (rc : Array Value) (W : World) : Prop :=
  Below w0.heap.size w0 W ∧ W.heap[w0.heap.size]? = some (.cells bc 23) ∧ W.heap[w0.heap.size + 1]? = some (.cells cc 23) ∧ W.heap[w0.heap.size + 1 + 1]? = some (.cells rc 38)
theorem Kept.below {w0 W W' : World} {bc cc rc : Array Value} (h : Kept w0 bc cc rc W) (hb : Below W.heap.size W W') : Kept w0 bc cc rc W' := ⟨below_on h.1 hb, blk_below h.2.1 hb, blk_below h.2.2.1 hb, blk_below h.2.2.2 hb⟩
theorem Kept.start (w : World) (bc cc rc : Array Value) : Kept w bc cc rc (((w.alloc (.cells bc 23)).alloc (.cells cc 23)).alloc (.cells rc 38)) := by
  refine ⟨below_on (below_on (below_new _ _) (below_new _ _)) (below_new _ _), blk_keep (blk_keep (blk_new _ _) _) _, ?_, ?_⟩
  · have := blk_keep (blk_new (w.alloc (.cells bc 23)) (.cells cc 23)) (.cells rc 38)
    simpa using this
  · have := blk_new ((w.alloc (.cells bc 23)).alloc (.cells cc 23)) (.cells rc 38)
    simpa using this

set_option maxRecDepth 20000 in
set_option maxHeartbeats 4000000 in
theorem walk (a : Option Addr) (n cap : Nat) (l : List (Int × Value × List Int)) (ys zs : List Int) (bc cc : Array Value) (r : Int) (ga : Option Addr) (gc : Nat) (g : List Int) (w : World)
    (hn : n = l.length) (hm : n ≤ maxLen) (hcap : n ≤ cap) (hno : a = none → cap = 0) (hr : RulesIn w a l) (hbc : bc = bankC ys) (hl : ys.length = 8) (hcc : cc = bankC zs) (hz : zs.length = 8)
    (hgm : g.length ≤ maxLen) (hgc : ga = none → gc = 0) (hgr : Row w ga g) :
    Calls Try.prog 5 #[.slice a n cap, .agg bc, .agg cc, .agg #[.int .i64 r, .slice ga g.length gc]] w fun e w' => e = .returned (.bool true) ∧ Below w.heap.size w w' := by
  have HK0 := hide (Kept.start w bc cc #[.int .i64 r, .slice ga g.length gc])
  have HS := hide (show bc.size = 8 by rw [hbc, bankC_size, hl])
  have HT := hide (show cc.size = 8 by rw [hcc, bankC_size, hz])
  have F1 := hide (fun W (k1 : Nat) (k2 : Nat) h => Rule.fits_any (some ⟨k2, 0, none⟩) [(2, .slice (some ⟨k1, 0, none⟩) 1 1, [0])] 1 1 noBank #[.int .i64 0, .int .i64 0, .int .i64 0, .int .i64 0, .int .i64 0, .int .i64 0, .int .i64 0, .int .i64 0] W rfl (by unfold maxLen; omega) (Nat.le_refl _) h rfl rfl)
  have F2 := hide (fun W (k2 : Nat) h => Rule.fits_any (some ⟨k2, 0, none⟩) [(2, .slice none 0 0, [])] 1 1 noBank #[.int .i64 0, .int .i64 0, .int .i64 0, .int .i64 0, .int .i64 0, .int .i64 0, .int .i64 0, .int .i64 0] W rfl (by unfold maxLen; omega) (Nat.le_refl _) h rfl rfl)
  have KF := hide (fun (W : World) (h : Below w.heap.size w W) => Rule.fits_any a l n cap ys bc W hn hm hcap (hr.below h) hbc hl)
  have KG := hide (fun (W : World) (h : Below w.heap.size w W) => Rule.fits_any a l n cap zs cc W hn hm hcap (hr.below h) hcc hz)
  have KM := hide (fun (W : World) (h : Below w.heap.size w W) => Rule.mask_any a l n cap W hn hm hcap (hr.below h))
  have SM := hide (fun (W : World) (m : Int) => Bank.same_any ys zs bc cc m W hbc hcc hl hz)
  have KW := hide (fun (W : World) ad k c (h : k = l.length + 1) (hk : l.length + 1 ≤ maxLen) (hc : k ≤ c) (hh : RulesIn W ad (l ++ [(r, .slice ga g.length gc, g)])) => Rule.fits_any ad (l ++ [(r, .slice ga g.length gc, g)]) k c ys bc W (by rw [h]; simp) (by rw [h]; exact hk) hc hh hbc hl)
  have HN := hide hn
  have HR := hide hr
  have HGM := hide hgm
  have HGR := hide hgr
  have HGC := hide hgc
  have HNO := hide hno
  clear hn hr hm hl hz hbc hcc hgm hgr hgc hno
  go_enter Try.func5, Try.ntmps5
  go_wp2_with (fail)
  have hb0 := below_on (below_on (below_new (((w.alloc (.cells bc 23)).alloc (.cells cc 23)).alloc (.cells #[.int .i64 r, .slice ga g.length gc] 38)) (.cells #[.int .i64 0, .int .i64 0, .int .i64 0, .int .i64 0, .int .i64 0, .int .i64 0, .int .i64 0, .int .i64 0] 23)) (below_new _ (.cells #[.int .i64 0] 3))) (below_new _ (.cells #[.int .i64 2, .slice (some ⟨w.heap.size + 1 + 1 + 1 + 1, 0, none⟩) 1 1] 38))
  have HK1 := hide (HK0.out.below hb0)
  have HZ1 := hide (blk_keep (blk_keep (blk_n (W := ((w.alloc (.cells bc 23)).alloc (.cells cc 23)).alloc (.cells #[.int .i64 r, .slice ga g.length gc] 38)) (k := w.heap.size + 1 + 1 + 1) (by simp) (.cells #[.int .i64 0, .int .i64 0, .int .i64 0, .int .i64 0, .int .i64 0, .int .i64 0, .int .i64 0, .int .i64 0] 23)) (.cells #[.int .i64 0] 3)) (.cells #[.int .i64 2, .slice (some ⟨w.heap.size + 1 + 1 + 1 + 1, 0, none⟩) 1 1] 38))
  have HI1 := hide (blk_keep (blk_n (W := (((w.alloc (.cells bc 23)).alloc (.cells cc 23)).alloc (.cells #[.int .i64 r, .slice ga g.length gc] 38)).alloc (.cells #[.int .i64 0, .int .i64 0, .int .i64 0, .int .i64 0, .int .i64 0, .int .i64 0, .int .i64 0, .int .i64 0] 23)) (k := w.heap.size + 1 + 1 + 1 + 1) (by simp) (.cells #[.int .i64 0] 3)) (.cells #[.int .i64 2, .slice (some ⟨w.heap.size + 1 + 1 + 1 + 1, 0, none⟩) 1 1] 38))
  have HR1 := hide (blk_n (W := ((((w.alloc (.cells bc 23)).alloc (.cells cc 23)).alloc (.cells #[.int .i64 r, .slice ga g.length gc] 38)).alloc (.cells #[.int .i64 0, .int .i64 0, .int .i64 0, .int .i64 0, .int .i64 0, .int .i64 0, .int .i64 0, .int .i64 0] 23)).alloc (.cells #[.int .i64 0] 3)) (k := w.heap.size + 1 + 1 + 1 + 1 + 1) (by simp) (.cells #[.int .i64 2, .slice (some ⟨w.heap.size + 1 + 1 + 1 + 1, 0, none⟩) 1 1] 38))
  clear hb0 HK0
  refine (F1.out _ (w.heap.size + 1 + 1 + 1 + 1) _ (one (by rw [cell_of_row _ _ _ _ _ _ HR1.out]; rfl) (by rw [cell_of_row _ _ _ _ _ _ HR1.out]; rfl) (good_one (by rw [cell_of_row _ _ _ _ _ _ HI1.out]; rfl)))).mono ?_
  rintro e w1 ⟨rfl, hb1⟩
  rw [(fact_one _).1, (fact_one _).2, errV_zero]
  have HK2 := hide (HK1.out.below hb1)
  have HZ2 := hide (blk_below HZ1.out hb1)
  clear hb1 HK1 HZ1 HI1 HR1 F1
  have HZ3 := hide (blk_keep HZ2.out (.cells #[.int .i64 2, .slice none 0 0] 38))
  go_wp2_with ((with_reducible refine Bank.wpl_load 9 ?_ ?_ _ ?_ _ _ HZ3.out rfl ?_); rfl; rfl; rfl)
  have HR2 := hide (blk_new w1 (.cells #[.int .i64 2, .slice none 0 0] 38))
  refine (F2.out _ _ (one (by rw [cell_of_row _ _ _ _ _ _ HR2.out]; rfl) (by rw [cell_of_row _ _ _ _ _ _ HR2.out]; rfl) good_none)).mono ?_
  rintro e w2 ⟨rfl, hb2⟩
  rw [fact_two.1, fact_two.2, errV_zero]
  have HK3 := hide ((HK2.out.below (below_new _ _)).below hb2)
  clear hb2 HK2 HZ2 HZ3 HR2 F2
  have HG3 : Hid (w2.heap[w.heap.size]? = some (.cells bc 23)) := HK3.out.2.1
  go_wp2_with ((with_reducible refine Bank.wpl_load 5 ?_ ?_ _ ?_ _ _ HG3.out HS.out ?_); rfl; rfl; rfl)
  refine (KF.out _ HK3.out.1).mono ?_
  rintro e w3 ⟨rfl, hb3⟩
  have HK4 := hide (HK3.out.below hb3)
  clear hb3 HK3 HG3 KF
  by_cases hE : fitE (rulesL l) ys = 0
  · obtain ⟨hZ, hB⟩ := fitE_zero hE
    have HZ := hide hZ
    have FA := fitA_ok hE
    have ho := bankE_zero hB
    have HO := hide ho
    have MA := maskA_ok hZ
    have MK := hide (mask_of hZ)
    have FG := hide (fitE_ok (b := zs) hZ)
    rw [hE, FA, errV_zero]
    simp only [hZ, MA, errV_zero] at KM
    have H8 := hide (show l.length ≤ 8 by have := (rulesE_zero hZ).1; rw [rulesL_len] at this; omega)
    have FS := hide (fun (h : M.differ ys zs (maskV (rulesL l)) = false) => fits_same hZ h)
    have FM := hide (fun (h : fitE (rulesL l ++ [(r, g)]) ys = 0) (h2 : fitA (rulesL l ++ [(r, g)]) ys = true) => more_fits h h2)
    simp only [] at FM
    clear hE hZ hB FA ho MA
    generalize hmv : maskV (rulesL l) = mv at *
    generalize hp : fitsB (rulesL l) ys = p at *
    clear hmv
    go_wp2_with (fail)
    refine (KM.out _ HK4.out.1).mono ?_
    rintro e w4 ⟨rfl, hb4⟩
    have HK5 := hide (HK4.out.below hb4)
    clear hb4 HK4 KM
    have HG5 : Hid (w4.heap[w.heap.size + 1]? = some (.cells cc 23)) := HK5.out.2.2.1
    go_wp2_with ((with_reducible refine Bank.wpl_load 6 ?_ ?_ _ ?_ _ _ HG5.out HT.out ?_); rfl; rfl; rfl)
    refine (KG.out _ HK5.out.1).mono ?_
    rintro e w5 ⟨rfl, hb5⟩
    have HK6 := hide (HK5.out.below hb5)
    clear hb5 HK5 HG5 KG
    have HG6 : Hid (w5.heap[w.heap.size]? = some (.cells bc 23)) := HK6.out.2.1
    have HC6 : Hid (w5.heap[w.heap.size + 1]? = some (.cells cc 23)) := HK6.out.2.2.1
    go_wp2_with (first | ((with_reducible refine Bank.wpl_load 5 ?_ ?_ _ ?_ _ _ HG6.out HS.out ?_); rfl; rfl; rfl) | ((with_reducible refine Bank.wpl_load 6 ?_ ?_ _ ?_ _ _ HC6.out HT.out ?_); rfl; rfl; rfl))
    refine (SM.out _ mv).mono ?_
    rintro e w6 ⟨rfl, hb6⟩
    have HK7 := hide (HK6.out.below hb6)
    clear hb6 HK6 HG6 HC6 SM
    go_upto_region 14 with (fail)
    go_cut [15, 18, 19, 20, 66, 69, 70, 71, 72, 76, 77, 78, 92] (fun _ _ _ _ _ _ _ _ _ _ _ _ s92 w' => s92 = .bool false ∧ w' = w6)
    case first =>
      by_cases hB : bankE zs = 0
      · have hzo := bankE_zero hB
        have FZ := FG.out.trans hB
        rw [FZ, fitA_ok FZ, errV_zero, sameE_ok HO.out hzo MK.out.1, sameV_ok HO.out hzo MK.out.1, errV_zero]
        cases hdf : M.differ ys zs mv with
        | false =>
          rw [← FS.out hdf]
          clear hB hzo FZ hdf
          cases p with
          | true => go_wp2; go_meet; exact ⟨rfl, rfl⟩
          | false => go_wp2; go_meet; exact ⟨rfl, rfl⟩
        | true =>
          clear hB hzo FZ hdf
          generalize fitsB (rulesL l) zs = q
          go_wp2; go_meet; exact ⟨rfl, rfl⟩
      · rw [FG.out, errV_not hB]
        clear hB
        go_wp2; go_meet; exact ⟨rfl, rfl⟩
    case rest =>
    obtain ⟨rfl, rfl⟩ := hcut
    clear hp FS FG MK HO HZ
    have HRW := hide (HR.out.below HK7.out.1)
    have HL := hide (show l.length ≤ maxLen by have := H8.out; unfold maxLen; omega)
    go_upto_region 18 with (at_builtin; refine wpList_appRs (n := 2) (cv := ruleV) rfl _ _ 35 rfl _ 38 _ 32 info_rule rfl (by omega) (by omega) Try.underlying35 ruleV_len _ [] rfl (OwnR.nil _ _ _) a n cap l rfl HN.out HNO.out HRW.out.1 (fun c hc => one_cell (HRW.out.2 c hc)) (by have := H8.out; simp; omega) (Nat.le_refl _) ?_; intro v7 w7 ho7 hg7)
    have hb7 : Below wc.heap.size wc w7 := (Below.refl _ _).grown hg7 (Nat.le_refl _) (fun k hk => absurd (show (none : Option Nat) = some k from hk) (by simp))
    rw [List.nil_append] at ho7
    have HO7 := hide ho7
    have HB7 := hide hb7
    have HK8 := hide (HK7.out.below hb7)
    have hsz := hb7.size
    obtain ⟨t0, t1⟩ := cells_of HK8.out.2.2.2
    have hgood : goodIn w7 (r, .slice ga g.length gc, g) := (show goodIn w (r, .slice ga g.length gc, g) from ⟨ga, gc, rfl, HGM.out, HGC.out, HGR.out⟩).below HK8.out.1
    have HGD := hide hgood
    have HNW := hide (blk_new w7 (.cells #[.int .i64 r, .slice ga g.length gc] 38))
    have HRM := hide (one (g := g) (by rw [cell_of_row _ _ _ _ _ _ HNW.out]; rfl) (by rw [cell_of_row _ _ _ _ _ _ HNW.out]; rfl) (hgood.below (below_new w7 (.cells #[.int .i64 r, .slice ga g.length gc] 38))))
    clear hg7 ho7 hb7 hgood
    go_upto_region 19 with (at_builtin; refine wpList_appRs (n := 2) (cv := ruleV) rfl _ _ 35 rfl wc.heap.size 38 _ 32 info_rule rfl (by omega) (by omega) Try.underlying35 ruleV_len _ l rfl (HO7.out.alloc _) (some ⟨w7.heap.size, 0, none⟩) 1 1 [(r, .slice ga g.length gc, g)] rfl rfl (fun h => by cases h) HRM.out.1 (fun c hc => by rw [List.mem_singleton.1 hc]; exact one_cell HGD.out) (by have := H8.out; simp; omega) (by simp; omega) ?_; intro v8 w8 ho8 hg8)
    have hb8 : Below wc.heap.size wc w8 := ((HB7.out.alloc hsz _).grown hg8 (by simp; omega) (fun k hk => HO7.out.block k hk))
    have HK9 := hide (HK7.out.below hb8)
    have HRA := hide ((HRW.out.below hb8))
    obtain ⟨ad, cp, rfl, hcp, hrow⟩ := ho8.row ruleV_len
    have hcap8 := own_cap ho8 rfl
    have HRL : Hid (RulesIn w8 ad (l ++ [(r, .slice ga g.length gc, g)])) := ⟨hrow, fun c hc => by
      rcases List.mem_append.1 hc with h | h
      · exact HRA.out.2 c h
      · rw [List.mem_singleton.1 h]
        exact (show goodIn w (r, .slice ga g.length gc, g) from ⟨ga, gc, rfl, HGM.out, HGC.out, HGR.out⟩).below HK9.out.1⟩
    have hk9 : (l ++ [(r, Value.slice ga g.length gc, g)]).length = l.length + 1 := by simp
    rw [hk9] at hcap8 ⊢
    have HKW := hide (KW.out w8 ad _ cp rfl (by have := H8.out; unfold maxLen; omega) hcap8 HRL.out)
    generalize l.length + 1 = k9 at *
    have HG9 : Hid (w8.heap[w.heap.size]? = some (.cells bc 23)) := HK9.out.2.1
    clear t0 t1 hg8 ho8 hb8 hrow hcap8 hcp hk9 HRA HRL HNW HRM HGD HO7 HB7 HK8 HRW hsz KW
    rw [rulesL_snoc] at HKW
    simp only [] at HKW
    go_wp2_with ((with_reducible refine Bank.wpl_load 5 ?_ ?_ _ ?_ _ _ HG9.out HS.out ?_); rfl; rfl; rfl)
    refine HKW.out.mono ?_
    rintro e w9 ⟨rfl, hb9⟩
    have HKA := hide (HK9.out.below hb9)
    clear hb9 HK9 HG9 HKW
    obtain ⟨t0, t1⟩ := cells_of HKA.out.2.2.2
    by_cases hW : fitE (rulesL l ++ [(r, g)]) ys = 0
    · have FQ := hide (FM.out hW)
      rw [hW, errV_zero]
      clear hW FM
      generalize fitA (rulesL l ++ [(r, g)]) ys = q at *
      cases q with
      | false =>
        go_wp2
        all_goals go_ret
        all_goals exact ⟨rfl, HKA.out.1⟩
      | true =>
        obtain ⟨rfl, hgl⟩ := FQ.out rfl
        have hgz : (0 : Int) < g.length := by omega
        have HD := hide (decide_eq_true hgl)
        clear FQ hgl
        go_wp2
        all_goals go_ret
        all_goals exact ⟨show Ending.returned (.bool (decide (0 < g.length))) = .returned (.bool true) by rw [HD.out], HKA.out.1⟩
    · rw [errV_not hW]
      clear hW FM
      go_wp2
      all_goals go_ret
      all_goals exact ⟨rfl, HKA.out.1⟩
  · rw [errV_not hE]
    clear hE
    go_wp2
    go_ret
    exact ⟨rfl, HK4.out.1⟩
end Go.Proofs.Ytldckkcahlpafaa.RuleSame
