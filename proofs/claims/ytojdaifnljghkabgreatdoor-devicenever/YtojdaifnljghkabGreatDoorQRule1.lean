/-
  Contracts of package rule's checkOne and Check over this translation: what each returns, and that memory that was there stays as it was.
-/
import Derived.Test.YtojdaifnljghkabGreatDoorQRuleRef
import Derived.Test.YtojdaifnljghkabGreatDoorPack2
import Derived.Test.YtojdaifnljghkabGreatDoorQAnyR
import Derived.Deep.RegionHeld3
namespace Go.Proofs.YtojdaifnljghkabGreatDoor.M
theorem errV_not {T : TypeId} {k : Int} (h : ¬ k = 0) : errV T k = .iface T (.int .i64 k) := by unfold errV; rw [if_neg h]
end Go.Proofs.YtojdaifnljghkabGreatDoor.M
namespace Go.Proofs.YtojdaifnljghkabGreatDoor.Rule
open Go.ChangeShapes Go.WideShapes Go.ChangeAt Go.RowKit
open Go.Proofs.YtojdaifnljghkabGreatDoor.M Go.Proofs.YtojdaifnljghkabGreatDoor.Measure
set_option linter.unusedVariables false

theorem bad_any (xs : List Int) (w : World) : Any.Tells 144 #[] (fun x => !isM x) xs w := by
  intro W x _ hb
  show Calls Tryz.prog 144 #[.int .i64 x] W _
  go_enter Tryz.func144, Tryz.ntmps144
  go_wp2_with (go_at_call 80; refine (is_any _ _).mono ?_; rintro e w' ⟨rfl, rfl⟩)
  go_ret
  exact ⟨by cases isM x <;> rfl, hb⟩
theorem cells2 {w : World} {b : Nat} {x y : Value} {t : TypeId} {fr : Nat × Nat} (h : w.heap[b]? = some (.cells #[x, y] t fr)) :
    w.cell? ⟨b, 0, none⟩ = some x ∧ w.cell? ⟨b, 1, none⟩ = some y := by
  refine ⟨?_, ?_⟩ <;> rw [cell_of_row w b _ _ t fr h] <;> rfl
theorem alike_any (l : List (Int × Value × List Int)) (r : Int) (v : Value) (bk : Nat) (w : World) (hk : w.heap[bk]? = some (.cells #[.int .i64 r, v] 167)) :
    AnyR.Tells 145 #[.pointer (some ⟨bk, 0, none⟩)] (fun c => c.1 == r) l w := by
  rintro W ⟨q, u, g⟩ _ hb
  show Calls Tryz.prog 145 #[.agg #[.int .i64 q, u], .pointer (some ⟨bk, 0, none⟩)] W fun e w' => e = .returned (.bool (q == r)) ∧ Below w.heap.size w w'
  have HK := hide (blk_below hk hb)
  have hkl := blk_lt HK.out
  obtain ⟨t0, t1⟩ := cells2 HK.out
  have HB := hide (below_on hb (below_new W (.cells #[.int .i64 q, u] 167)))
  clear hb hk t1
  by_cases he : q = r
  · subst he
    go_enter Tryz.func145, Tryz.ntmps145
    go_wp2
    go_ret
    exact ⟨by simp, HB.out⟩
  · have E := hide (show (q == r) = false by simpa using he)
    go_enter Tryz.func145, Tryz.ntmps145
    go_wp2
    go_ret
    exact ⟨by rw [E.out]; rfl, HB.out⟩
theorem any_reg (l : List (Int × Value × List Int)) (r : Int) : (l.any fun c => c.1 == r) = ((rulesL l).map (·.1)).contains r := by
  rw [Bool.eq_iff_iff, List.any_eq_true, List.contains_iff_mem, List.mem_map]
  constructor
  · rintro ⟨c, hc, he⟩
    exact ⟨(c.1, c.2.2), List.mem_map.2 ⟨c, hc, rfl⟩, by simpa using he⟩
  · rintro ⟨d, hd, he⟩
    obtain ⟨c, hc, e2⟩ := List.mem_map.1 hd
    exact ⟨c, hc, by rw [← he, ← e2]; simp⟩
theorem RulesIn.take {w : World} {a : Option Addr} {l : List (Int × Value × List Int)} (h : RulesIn w a l) (k : Nat) : RulesIn w a (l.take k) := ⟨h.1.take k, fun c hc => h.2 c (List.mem_of_mem_take hc)⟩
theorem regs_take (l : List (Int × Value × List Int)) (k : Nat) : (rulesL (l.take k)).map (·.1) = regsTo l k := by
  unfold regsTo rulesL
  rw [List.map_take]

set_option maxRecDepth 20000 in
set_option maxHeartbeats 4000000 in
theorem one_any (a : Option Addr) (l : List (Int × Value × List Int)) (n cap : Nat) (r : Int) (ad : Option Addr) (g : List Int) (gc : Nat) (w : World) (hn : n = l.length) (hm : n ≤ 8) (hr : RulesIn w a l) (hgm : g.length ≤ maxLen) (hrow : Row w ad g) :
    Calls Tryz.prog 129 #[.slice a n cap, .agg #[.int .i64 r, .slice ad g.length gc]] w fun e w' => e = .returned (errV 96 (ruleE ((rulesL l).map (·.1)) r g)) ∧ Below w.heap.size w w' := by
  have e1 : ∀ args w, (callFunc 144 args).run Tryz.prog w = .ok (.enter 144 args) w := enters_of Tryz.func144 (by kernel_rfl) rfl
  have e2 : ∀ args w, (callFunc 145 args).run Tryz.prog w = .ok (.enter 145 args) w := enters_of Tryz.func145 (by kernel_rfl) rfl
  have hgm' : g.length ≤ 9223372036854775807 := by unfold maxLen at hgm; omega
  have HB0 := hide (below_new w (.cells #[.int .i64 r, .slice ad g.length gc] 167))
  have HK0 := hide (blk_new w (.cells #[.int .i64 r, .slice ad g.length gc] 167))
  have HRW := hide (hrow.below (below_new w (.cells #[.int .i64 r, .slice ad g.length gc] 167)))
  have HR := hide (hr.below (below_new w (.cells #[.int .i64 r, .slice ad g.length gc] 167)))
  have HN := hide hn
  clear hn hr hrow hgm
  obtain ⟨t0, t1⟩ := cells2 HK0.out
  go_enter Tryz.func129, Tryz.ntmps129
  go_wp2_with (fail)
  refine (Bank.isRegister_any r _).mono ?_
  rintro e w1 ⟨rfl, rfl⟩
  cases hreg : isReg r with
  | false =>
    have E := hide (ruleE_reg (prev := (rulesL l).map (·.1)) (g := g) hreg)
    clear hreg
    go_wp2
    go_ret
    exact ⟨by rw [E.out]; rfl, HB0.out⟩
  | true =>
    by_cases h12 : 12 < g.length
    · have h12z : (12 : Int) < g.length := by omega
      have E := hide (ruleE_full (prev := (rulesL l).map (·.1)) hreg h12)
      clear hreg h12
      go_wp2
      go_ret
      exact ⟨by rw [E.out]; rfl, HB0.out⟩
    · have h12z : ¬ (12 : Int) < g.length := by omega
      have H12 := hide h12
      have HREG := hide hreg
      clear hreg
      go_wp2_with (fail)
      refine (Any.contains_any _ g _ _ _ #[] _ _ rfl (by omega) HRW.out e1 (bad_any g _)).mono ?_
      rintro e w2 ⟨rfl, hb2⟩
      rw [any_bad]
      have HB2 := hide (below_on HB0.out hb2)
      have HK2 := hide (blk_below HK0.out hb2)
      have HR2 := hide (HR.out.below hb2)
      clear hb2 h12 t0 t1
      cases hok : okAll g with
      | false =>
        have E := hide (ruleE_good (prev := (rulesL l).map (·.1)) HREG.out H12.out hok)
        clear hok
        go_wp2
        go_ret
        exact ⟨by rw [E.out]; rfl, HB2.out⟩
      | true =>
        have HG := hide hok
        clear hok
        go_wp2_with (fail)
        refine (AnyR.contains_any _ l _ _ _ _ _ _ HN.out (by omega) HR2.out e2 (alike_any l r _ _ _ HK2.out)).mono ?_
        rintro e w3 ⟨rfl, hb3⟩
        rw [any_reg]
        have HB3 := hide (below_on HB2.out hb3)
        clear hb3
        cases hct : ((rulesL l).map (·.1)).contains r with
        | true =>
          have E := hide (ruleE_clash HREG.out H12.out HG.out hct)
          clear hct
          go_wp2
          go_ret
          exact ⟨by rw [E.out]; rfl, HB3.out⟩
        | false =>
          have E := hide (ruleE_ok HREG.out H12.out HG.out hct)
          clear hct
          go_wp2
          go_ret
          exact ⟨by rw [E.out]; rfl, HB3.out⟩

/-- A rule lies in its block, and all that was there is as it was. -/
def HeldR (w0 : World) (b : Nat) (r : Int) (v : Value) (W : World) : Prop := Below w0.heap.size w0 W ∧ W.heap[b]? = some (.cells #[.int .i64 r, v] 167)
section
variable {w0 W W' : World} {b : Nat} {r : Int} {v : Value}
theorem heldR_S (h : HeldR w0 b r v W) : W.cell? ⟨b, 0, none⟩ = some (.int .i64 r) ∧ W.cell? ⟨b, 1, none⟩ = some v ∧ HeldR w0 b r v W := by
  obtain ⟨t0, t1⟩ := cells2 h.2
  exact ⟨t0, t1, h⟩
theorem heldR_drew (h : HeldR w0 b r v W) : HeldR w0 b r v W.drew := ⟨Below.drew h.1, h.2⟩
theorem heldR_below (h : HeldR w0 b r v W) (hb : Below W.heap.size W W') : HeldR w0 b r v W' := ⟨below_on h.1 hb, blk_below h.2 hb⟩
end
set_option maxRecDepth 20000 in
set_option maxHeartbeats 4000000 in
theorem check_any (a : Option Addr) (l : List (Int × Value × List Int)) (n cap : Nat) (w : World) (hn : n = l.length) (hm : n ≤ maxLen) (hcap : n ≤ cap) (hr : RulesIn w a l) :
    Calls Tryz.prog 103 #[.slice a n cap] w fun e w' => e = .returned (errV 96 (rulesE (rulesL l))) ∧ Below w.heap.size w w' := by
  have hm' : n ≤ 9223372036854775807 := by unfold maxLen at hm; omega
  have HN := hide hn
  have HR := hide hr
  have hcapz : (n : Int) ≤ cap := by omega
  clear hn hr hm
  by_cases h8 : 8 < n
  · rw [rulesE_full (by rw [rulesL_len]; have := HN.out; omega)]
    have hz : (8 : Int) < n := by omega
    go_enter Tryz.func103, Tryz.ntmps103
    go_wp2
    go_ret
    exact ⟨rfl, Below.refl _ _⟩
  · rw [rulesE_go (by rw [rulesL_len]; have := HN.out; omega)]
    have hz : ¬ (8 : Int) < n := by omega
    go_enter Tryz.func103, Tryz.ntmps103
    go_wp2
    go_loopw [12] (fun s13 wr => ∃ k : Nat, k ≤ n ∧ s13 = .int .i64 k ∧ Hid (rulesF [] (rulesL l) = rulesF (regsTo l k) ((rulesL l).drop k)) ∧ Hid (Below w.heap.size w wr)) (fun s13 _ => n - (intOf s13).toNat)
    case atStart => exact ⟨0, by omega, rfl, rfl, Below.refl _ _⟩
    case round =>
      obtain ⟨k, hk, rfl, HF, HB⟩ := hrel
      by_cases hlt : k < n
      · have hlz : (k : Int) < n := by omega
        have hkc : (k : Int) ≤ cap := by omega
        obtain ⟨⟨r, v, g⟩, hc⟩ : ∃ c, l[k]? = some c := ⟨l[k]'(by have := HN.out; omega), List.getElem?_eq_getElem (by have := HN.out; omega)⟩
        have HC := hide hc
        have HD := hide (drop_cons (rulesL_at hc))
        have HRK := hide (RulesIn.take (HR.out.below HB.out) k)
        have HLK := hide (show k = (l.take k).length by rw [List.length_take]; have := HN.out; omega)
        obtain ⟨b, off, ad, gc, rfl, rfl, hgm, hgc, hrow, _, _⟩ := HR.out.at hc
        obtain ⟨b1, off1, ad1, gc1, q1, q2, _, _, _, c0, c1⟩ := (HR.out.below HB.out).at hc
        cases q1
        cases q2
        have HK0 : Hid (HeldR w wr.heap.size r (.slice ad g.length gc) (wr.alloc (.cells #[.int .i64 r, .slice ad g.length gc] 167))) := ⟨below_on HB.out (below_new _ _), blk_new _ _⟩
        have OK := hide (fun (W : World) (h : HeldR w wr.heap.size r (.slice ad g.length gc) W) => one_any (some ⟨b, off, none⟩) (l.take k) k cap r ad g gc W HLK.out (by omega) (RulesIn.take (HR.out.below h.1) k) hgm (hrow.below h.1))
        clear hc hrow hgm hgc HRK
        simp only [] at HD
        have HBAD := hide (fun h => rulesF_bad (prev := regsTo l k) (c := (r, g)) (t := (rulesL l).drop (k + 1)) h)
        have HOK := hide (fun h => rulesF_ok (prev := regsTo l k) (c := (r, g)) (t := (rulesL l).drop (k + 1)) h)
        simp only [] at HBAD HOK
        rw [regs_take] at OK
        have h0 := HK0.out
        obtain ⟨t0, t1, _⟩ := heldR_S h0
        generalize hev : errV 96 (ruleE (regsTo l k) r g) = ev at OK
        go_wp2_with (fail)
        go_region_held3 (fun W => W.cell? ⟨wr.heap.size, 0, none⟩ = some (.int .i64 r) ∧ W.cell? ⟨wr.heap.size, 1, none⟩ = some (.slice ad g.length gc) ∧ HeldR w wr.heap.size r (.slice ad g.length gc) W)
          (exact heldR_S (by repeat (first | assumption | apply heldR_drew)))
          ((go_at_call 129; refine (OK.out _ (by repeat (first | assumption | apply heldR_drew))).mono ?_; rintro e w2 ⟨rfl, hb2⟩; have h2 : HeldR w wr.heap.size r (.slice ad g.length gc) w2 := heldR_below (by repeat (first | assumption | apply heldR_drew)) hb2; clear hb2; obtain ⟨m0, m1, _⟩ := heldR_S h2))
        have HB2 := hide h2.1
        subst hev
        clear OK h0 h2 t0 t1 m0 m1 HK0
        by_cases hE : ruleE (regsTo l k) r g = 0
        · have E := hide (show rulesF [] (rulesL l) = rulesF (regsTo l (k + 1)) ((rulesL l).drop (k + 1)) by rw [HF.out, HD.out, HOK.out hE, regsTo_succ HC.out])
          rw [hE, errV_zero]
          clear hE
          go_wp2
          go_roundw
          case rel => exact ⟨k + 1, by omega, by go_num, E.out, HB2.out⟩
          case measure => simp [intOf]; omega
        · have E := hide (show rulesF [] (rulesL l) = ruleE (regsTo l k) r g by rw [HF.out, HD.out, HBAD.out hE])
          have HX := hide (errV_not (T := 96) hE)
          rw [HX.out]
          clear hE
          go_wp2
          go_ret
          exact ⟨by rw [E.out, HX.out]; rfl, HB2.out⟩
      · have hlz : ¬ (k : Int) < n := by omega
        have E := hide (show rulesF [] (rulesL l) = 0 by rw [HF.out, List.drop_eq_nil_of_le (by rw [rulesL_len]; have := HN.out; omega)]; rfl)
        go_wp2
        go_ret
        exact ⟨by rw [E.out]; rfl, HB.out⟩
end Go.Proofs.YtojdaifnljghkabGreatDoor.Rule
