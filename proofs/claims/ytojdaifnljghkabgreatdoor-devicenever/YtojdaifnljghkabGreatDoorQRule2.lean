/-
  Contracts of package rule's Mask and Fits over this translation: what each returns, and that memory that was there stays as it was.
-/
import Derived.Test.YtojdaifnljghkabGreatDoorQRule1
import Derived.Test.YtojdaifnljghkabGreatDoorQRuleRef2
import Derived.Test.YtojdaifnljghkabGreatDoorQAmong
import Derived.Test.YtojdaifnljghkabGreatDoorQAnyR
import Derived.Test.YtojdaifnljghkabGreatDoorPack2
namespace Go.Proofs.YtojdaifnljghkabGreatDoor.M
/-- What Mask and Fits tell: the fault, the answer. -/
def maskA (l : List (Int × List Int)) : Int := if rulesE l = 0 then maskV l else 0
def fitE (l : List (Int × List Int)) (b : List Int) : Int := if rulesE l = 0 then bankE b else rulesE l
def fitA (l : List (Int × List Int)) (b : List Int) : Bool := if fitE l b = 0 then fitsB l b else false
theorem maskA_ok {l : List (Int × List Int)} (h : rulesE l = 0) : maskA l = maskV l := if_pos h
theorem maskA_no {l : List (Int × List Int)} (h : ¬ rulesE l = 0) : maskA l = 0 := if_neg h
theorem fitE_ok {l : List (Int × List Int)} {b : List Int} (h : rulesE l = 0) : fitE l b = bankE b := if_pos h
theorem fitE_no {l : List (Int × List Int)} {b : List Int} (h : ¬ rulesE l = 0) : fitE l b = rulesE l := if_neg h
theorem fitA_ok {l : List (Int × List Int)} {b : List Int} (h : fitE l b = 0) : fitA l b = fitsB l b := if_pos h
theorem fitA_no {l : List (Int × List Int)} {b : List Int} (h : ¬ fitE l b = 0) : fitA l b = false := if_neg h
theorem or_pow_fin : ∀ (m : Fin 256) (r : Fin 8), bit (m.val : Int) r.val = false → bits .or .i64 (m.val : Int) (2 ^ r.val) = (m.val : Int) + 2 ^ r.val := by decide +kernel
theorem or_pow {m : Int} {r : Nat} (h0 : 0 ≤ m) (h1 : m < 256) (hr : r < 8) (hb : bit m r = false) : bits .or .i64 m (2 ^ r) = m + 2 ^ r := by
  have := or_pow_fin ⟨m.toNat, by omega⟩ ⟨r, hr⟩
  simp only [] at this
  rw [show ((m.toNat : Nat) : Int) = m by omega] at this
  exact this hb
/-- The mask of the first rules: of no register of those that come. -/
theorem mask_next : ∀ (l : List (Int × List Int)) (m : Int) (prev : List Int), rulesF prev l = 0 → 0 ≤ m → m < 256 → (∀ k : Nat, k < 8 → bit m k = true → (k : Int) ∈ prev) → ∀ (c : Int × List Int) (t : List (Int × List Int)), l = c :: t →
    bit m c.1.toNat = false ∧ 0 ≤ m + 2 ^ c.1.toNat ∧ m + 2 ^ c.1.toNat < 256 ∧ rulesF (prev ++ [c.1]) t = 0 ∧ ∀ k : Nat, k < 8 → bit (m + 2 ^ c.1.toNat) k = true → (k : Int) ∈ prev ++ [c.1] := by
  intro l m prev h h0 h1 hp c t e
  subst e
  by_cases hz : ruleE prev c.1 c.2 = 0
  · rw [rulesF_ok hz] at h
    obtain ⟨z1, _, _, z4⟩ := ruleE_zero hz
    have hreg := isReg_iff.1 z1
    have hb : bit m c.1.toNat = false := by
      cases hb : bit m c.1.toNat with
      | false => rfl
      | true =>
        have := hp c.1.toNat (by omega) hb
        rw [show ((c.1.toNat : Nat) : Int) = c.1 by omega] at this
        rw [List.contains_iff_mem.2 this] at z4
        cases z4
    have fin : ∀ k : Nat, k < 8 → bit (m + 2 ^ c.1.toNat) k = (decide (k = c.1.toNat) || bit m k) ∧ m + 2 ^ c.1.toNat < 256 := by
      intro k hk
      have := bit_add_fin ⟨m.toNat, by omega⟩ ⟨c.1.toNat, by omega⟩ ⟨k, hk⟩
      simp only [] at this
      rw [show ((m.toNat : Nat) : Int) = m by omega] at this
      exact this hb
    have hpos : (0 : Int) ≤ 2 ^ c.1.toNat := Int.pow_nonneg (by omega)
    refine ⟨hb, by omega, (fin 0 (by omega)).2, h, fun k hk hbk => ?_⟩
    rw [(fin k hk).1, Bool.or_eq_true] at hbk
    rcases hbk with h3 | h3
    · exact List.mem_append_right _ (by rw [of_decide_eq_true h3]; simp; omega)
    · exact List.mem_append_left _ (hp k hk h3)
  · rw [rulesF_bad hz] at h
    exact absurd h hz
end Go.Proofs.YtojdaifnljghkabGreatDoor.M
namespace Go.Proofs.YtojdaifnljghkabGreatDoor.Rule
open Go.ChangeShapes Go.WideShapes Go.ChangeAt Go.RowKit
open Go.Proofs.YtojdaifnljghkabGreatDoor.M Go.Proofs.YtojdaifnljghkabGreatDoor.Measure
set_option linter.unusedVariables false

theorem broken_any (l : List (Int × Value × List Int)) (ys : List Int) (bk : Nat) (w : World) (hk : w.heap[bk]? = some (.cells (bankC ys) 67)) (hl : ys.length = 8) (hg : ∀ c ∈ l, goodIn w c ∧ 0 ≤ c.1 ∧ c.1 < 8) :
    AnyR.Tells 130 #[.pointer (some ⟨bk, 0, none⟩)] (fun c => !(c.2.2.contains (ys.getD c.1.toNat 0))) l w := by
  rintro W ⟨r, u, g⟩ hm hb
  obtain ⟨hgd, r0, r8⟩ := hg _ hm
  obtain ⟨ad, gc, e1, hgm, _, hrow⟩ := hgd.below hb
  simp only [] at e1 hgm hrow r0 r8
  subst e1
  obtain ⟨rn, rfl⟩ : ∃ rn : Nat, r = rn := ⟨r.toNat, by omega⟩
  obtain ⟨y, hy⟩ : ∃ y, ys[rn]? = some y := ⟨ys[rn]'(by omega), List.getElem?_eq_getElem (by omega)⟩
  have HGD := hide (show ys.getD ((rn : Int)).toNat 0 = y by rw [Int.toNat_natCast, List.getD_eq_getElem?_getD, hy]; rfl)
  show Calls Tryz.prog 130 #[.agg #[.int .i64 rn, .slice ad g.length gc], .pointer (some ⟨bk, 0, none⟩)] W fun e w' => e = .returned (.bool (!(g.contains (ys.getD ((rn : Int)).toNat 0)))) ∧ Below w.heap.size w w'
  rw [HGD.out]
  have HK := hide (blk_below hk hb)
  have hcb : W.cell? ⟨bk, rn, none⟩ = some (.int .i64 y) := bank_cell HK.out hy
  have hlw := blk_lt HK.out
  have hb3 := below_new W (.cells #[.int .i64 rn, .slice ad g.length gc] 167)
  have HB3 := hide (below_on hb hb3)
  have AM := hide (fun (W : World) (h : Row W ad g) => Among.contains_any ad g g.length gc y W rfl hgm h)
  have HRW := hide (hrow.below hb3)
  have rz : (rn : Int) < 8 := by omega
  have rz0 : (0 : Int) ≤ rn := by omega
  clear hy hrow hb3 hgm hb hk hl hg hm hgd
  generalize g.contains y = q at *
  go_enter Tryz.func130, Tryz.ntmps130
  go_wp2_with (fail)
  go_quiet ((go_at_call 131; exact Calls.quiet_of_same (AM.out _ HRW.out)))
  go_wp2
  go_ret
  exact ⟨by cases q <;> rfl, below_quietR HB3.out _⟩
theorem not_broken (l : List (Int × Value × List Int)) (ys : List Int) : (l.any fun c => !(c.2.2.contains (ys.getD c.1.toNat 0))) = !(fitsB (rulesL l) ys) := by
  unfold fitsB rulesL
  rw [List.all_map, List.not_all_eq_any_not]
  rfl

set_option maxRecDepth 20000 in
set_option maxHeartbeats 4000000 in
theorem fits_any (a : Option Addr) (l : List (Int × Value × List Int)) (n cap : Nat) (ys : List Int) (bc : Array Value) (w : World) (hn : n = l.length) (hm : n ≤ maxLen) (hcap : n ≤ cap) (hr : RulesIn w a l) (hbc : bc = bankC ys) (hl : ys.length = 8) :
    Calls Tryz.prog 105 #[.slice a n cap, .agg bc] w fun e w' => e = .returned (.tuple #[.bool (fitA (rulesL l) ys), errV 96 (fitE (rulesL l) ys)]) ∧ Below w.heap.size w w' := by
  have hm' : n ≤ 9223372036854775807 := by unfold maxLen at hm; omega
  have HB0 := hide ((Below.refl _ w).alloc (Nat.le_refl _) (.cells bc 67))
  have HK0 := hide (show (w.alloc (.cells bc 67)).heap[w.heap.size]? = some (.cells bc 67) from Array.getElem?_push_size)
  have HS := hide (show bc.size = 8 by rw [hbc, bankC_size, hl])
  have CK := hide (fun (W : World) (h : RulesIn W a l) => check_any a l n cap W hn hm hcap h)
  have BK := hide (fun W => Bank.check_any ys bc W hbc hl)
  have HN := hide hn
  have HR := hide hr
  have HL := hide hl
  have HBC := hide hbc
  have e1 : ∀ args w, (callFunc 130 args).run Tryz.prog w = .ok (.enter 130 args) w := enters_of Tryz.func130 (by kernel_rfl) rfl
  clear hn hr hm hl hbc
  go_enter Tryz.func105, Tryz.ntmps105
  go_wp2_with (fail)
  refine (CK.out _ (HR.out.below HB0.out)).mono ?_
  rintro e w1 ⟨rfl, hb1⟩
  have HB1 := hide (below_on HB0.out hb1)
  have HK1 := hide (blk_below HK0.out hb1)
  clear hb1 HB0 HK0 CK
  by_cases hE : rulesE (rulesL l) = 0
  · have FE := hide (fitE_ok (b := ys) hE)
    have HO := hide hE
    rw [hE, errV_zero]
    clear hE
    go_wp2_with ((with_reducible refine Bank.wpl_load 3 ?_ ?_ _ ?_ _ _ HK1.out HS.out ?_); rfl; rfl; rfl)
    refine (BK.out _).mono ?_
    rintro e w2 ⟨rfl, hb2⟩
    have HB2 := hide (below_on HB1.out hb2)
    have HK2 := hide (show w2.heap[w.heap.size]? = some (.cells (bankC ys) 67) by rw [← HBC.out]; exact blk_below HK1.out hb2)
    clear hb2 HB1 HK1 BK
    by_cases hB : bankE ys = 0
    · have FZ := hide (FE.out.trans hB)
      have FA := hide (fitA_ok FZ.out)
      have HO8 := hide (show ¬ 8 < l.length by rw [← rulesL_len]; exact (rulesE_zero HO.out).1)
      have HRG := hide (fun (c : Int × Value × List Int) (hc : c ∈ l) => show 0 ≤ c.1 ∧ c.1 < 8 by
        obtain ⟨k, hk⟩ := List.getElem?_of_mem hc
        obtain ⟨r, v, g⟩ := c
        exact rules_reg HO.out hk)
      rw [hB, errV_zero]
      clear hB
      go_wp2_with (fail)
      refine (AnyR.contains_any _ l _ _ _ _ _ _ HN.out (by have := HO8.out; have := HN.out; omega) (HR.out.below HB2.out) e1 (broken_any l ys _ _ HK2.out HL.out (fun c hc => ⟨(HR.out.below HB2.out).2 c hc, HRG.out c hc⟩))).mono ?_
      rintro e w3 ⟨rfl, hb3⟩
      rw [not_broken]
      have HB3 := hide (below_on HB2.out hb3)
      clear hb3
      go_wp2
      go_ret2
      exact ⟨by rw [FA.out, FZ.out]; cases fitsB (rulesL l) ys <;> rfl, HB3.out⟩
    · have FN := hide (fitA_no (l := rulesL l) (b := ys) (fun e => hB (FE.out.symm.trans e)))
      have HX := hide (errV_not (T := 96) hB)
      rw [HX.out]
      clear hB
      go_wp2
      go_ret2
      exact ⟨by rw [FN.out, FE.out, HX.out]; rfl, HB2.out⟩
  · have FE := hide (fitE_no (b := ys) hE)
    have FN := hide (fitA_no (l := rulesL l) (b := ys) (fun e => hE (FE.out.symm.trans e)))
    have HX := hide (errV_not (T := 96) hE)
    rw [HX.out]
    clear hE
    go_wp2
    go_ret2
    exact ⟨by rw [FN.out, FE.out, HX.out]; rfl, HB1.out⟩

set_option maxRecDepth 20000 in
set_option maxHeartbeats 4000000 in
theorem mask_any (a : Option Addr) (l : List (Int × Value × List Int)) (n cap : Nat) (w : World) (hn : n = l.length) (hm : n ≤ maxLen) (hcap : n ≤ cap) (hr : RulesIn w a l) :
    Calls Tryz.prog 62 #[.slice a n cap] w fun e w' => e = .returned (.tuple #[.int .i64 (maskA (rulesL l)), errV 96 (rulesE (rulesL l))]) ∧ Below w.heap.size w w' := by
  have hm' : n ≤ 9223372036854775807 := by unfold maxLen at hm; omega
  have CK := hide (fun (W : World) (h : RulesIn W a l) => check_any a l n cap W hn hm hcap h)
  have HN := hide hn
  have HR := hide hr
  clear hn hr hm
  go_enter Tryz.func62, Tryz.ntmps62
  go_wp2_with (fail)
  refine (CK.out _ HR.out).mono ?_
  rintro e w1 ⟨rfl, hb1⟩
  have HB1 := hide hb1
  clear hb1 CK
  by_cases hE : rulesE (rulesL l) = 0
  · have MA := hide (maskA_ok hE)
    have HO := hide hE
    have HO2 := hide (rulesE_zero hE).2
    rw [hE, errV_zero]
    clear hE
    go_wp2
    go_loopw [5, 15] (fun s5 s15 wr => ∃ (k : Nat) (m : Int), k ≤ n ∧ s15 = .int .i64 k ∧ s5 = .int .i64 m ∧ 0 ≤ m ∧ m < 256 ∧ Hid (maskF m ((rulesL l).drop k) = maskV (rulesL l)) ∧ Hid (Below w.heap.size w wr) ∧ Hid (rulesF (regsTo l k) ((rulesL l).drop k) = 0 ∧ ∀ i : Nat, i < 8 → bit m i = true → (i : Int) ∈ regsTo l k)) (fun _ s15 _ => n - (intOf s15).toNat)
    case atStart => exact ⟨0, 0, by omega, rfl, rfl, by omega, by omega, rfl, HB1.out, ⟨HO2.out, fun i _ h => by rw [bit_zero] at h; cases h⟩⟩
    case round =>
      obtain ⟨k, m, hk, rfl, rfl, m0, m1, HF, HB, HP⟩ := hrel
      by_cases hlt : k < n
      · have hlz : (k : Int) < n := by omega
        obtain ⟨⟨r, v, g⟩, hc⟩ : ∃ c, l[k]? = some c := ⟨l[k]'(by have := HN.out; omega), List.getElem?_eq_getElem (by have := HN.out; omega)⟩
        obtain ⟨r0, r8⟩ := rules_reg HO.out hc
        have hd := drop_cons (rulesL_at hc)
        simp only [] at hd
        obtain ⟨x1, x2, x3, x4, x5⟩ := mask_next _ m _ HP.out.1 m0 m1 HP.out.2 _ _ hd
        simp only [] at x1 x2 x3 x4 x5
        obtain ⟨rn, rfl⟩ : ∃ rn : Nat, r = rn := ⟨r.toNat, by omega⟩
        rw [Int.toNat_natCast] at x1 x2 x3 x5
        have HOR := hide (or_pow m0 m1 (by omega) x1)
        have HF2 := hide (show maskF (m + 2 ^ rn) ((rulesL l).drop (k + 1)) = maskV (rulesL l) by
          rw [← HF.out, hd]
          show _ = maskF (m + 2 ^ ((rn : Int)).toNat) _
          rw [Int.toNat_natCast])
        have HP2 := hide (show rulesF (regsTo l (k + 1)) ((rulesL l).drop (k + 1)) = 0 ∧ ∀ i : Nat, i < 8 → bit (m + 2 ^ rn) i = true → (i : Int) ∈ regsTo l (k + 1) by rw [regsTo_succ hc]; exact ⟨x4, x5⟩)
        obtain ⟨b, off, ad, gc, rfl, _, _, _, _, c0, c1⟩ := (HR.out.below HB.out).at hc
        have HB3 := hide (below_on HB.out (below_new wr (.cells #[.int .i64 rn, .slice ad g.length gc] 167)))
        obtain ⟨p0, p1⟩ := pow_small (j := rn) (by omega)
        have rz : (rn : Int) < 64 := by omega
        have rz0 : (0 : Int) ≤ rn := by omega
        clear hc hd x1 x4 x5
        go_wp2
        refine ⟨⟨k + 1, m + 2 ^ rn, by omega, by go_num, by rw [HOR.out], x2, x3, HF2.out, HB3.out, HP2.out⟩, ?_⟩
        simp [intOf]
        omega
      · have hlz : ¬ (k : Int) < n := by omega
        have E := hide (show m = maskV (rulesL l) by rw [← HF.out, List.drop_eq_nil_of_le (by rw [rulesL_len]; have := HN.out; omega)]; rfl)
        go_wp2
        go_ret2
        exact ⟨by rw [MA.out, HO.out, ← E.out]; rfl, HB.out⟩
  · have MN := hide (maskA_no hE)
    have HX := hide (errV_not (T := 96) hE)
    rw [HX.out]
    clear hE
    go_wp2
    go_ret2
    exact ⟨by rw [MN.out, HX.out]; rfl, HB1.out⟩
end Go.Proofs.YtojdaifnljghkabGreatDoor.Rule
