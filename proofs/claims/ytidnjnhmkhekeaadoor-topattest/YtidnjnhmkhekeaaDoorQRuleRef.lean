/-
  Contracts of what package stairref1 says on rules (Rules, Mask, Fits): each returns what the plain mathematics says, and memory that was there stays as it was.
-/
import Derived.Test.YtidnjnhmkhekeaaDoorQRef1
import Derived.Test.YtidnjnhmkhekeaaDoorPack1
import Derived.Deep.QuietTactic
import Derived.BigQuiet
import Derived.Deep.DeepCutAuto
namespace Go.Proofs.YtidnjnhmkhekeaaDoor.M
theorem drop_cons {α : Type} {l : List α} {k : Nat} {x : α} (h : l[k]? = some x) : l.drop k = x :: l.drop (k + 1) := by
  obtain ⟨h1, h2⟩ := List.getElem?_eq_some_iff.1 h
  rw [List.drop_eq_getElem_cons h1, h2]
/-- The registers of the first rules. -/
def regsTo (l : List (Int × Value × List Int)) (k : Nat) : List Int := ((rulesL l).take k).map (·.1)
theorem regsTo_succ {l : List (Int × Value × List Int)} {k : Nat} {r : Int} {v : Value} {g : List Int} (h : l[k]? = some (r, v, g)) : regsTo l (k + 1) = regsTo l k ++ [r] := by
  unfold regsTo
  rw [take_one (rulesL_at h), List.map_append]
  rfl
theorem regsTo_not {l : List (Int × Value × List Int)} {k : Nat} {r : Int} (h : ∀ (j : Nat) (c : Int × Value × List Int), j < k → l[j]? = some c → c.1 ≠ r) : (regsTo l k).contains r = false := by
  apply Bool.eq_false_iff.2
  intro hc
  obtain ⟨d, hd, he⟩ := List.mem_map.1 (List.contains_iff_mem.1 hc)
  obtain ⟨j, hj⟩ := List.getElem?_of_mem hd
  rw [List.getElem?_take] at hj
  split at hj
  · rename_i hlt
    unfold rulesL at hj
    rw [List.getElem?_map] at hj
    obtain ⟨c, hc1, hc2⟩ := Option.map_eq_some_iff.1 hj
    exact h j c hlt hc1 (by rw [← he, ← hc2])
  · cases hj
theorem regsTo_has {l : List (Int × Value × List Int)} {k j : Nat} {c : Int × Value × List Int} (hj : j < k) (h : l[j]? = some c) : (regsTo l k).contains c.1 = true := by
  apply List.contains_iff_mem.2
  unfold regsTo
  refine List.mem_map.2 ⟨(c.1, c.2.2), ?_, rfl⟩
  apply List.mem_of_getElem? (i := j)
  rw [List.getElem?_take, if_pos hj]
  exact rulesL_at h
theorem below_quietR {B : Nat} {a w : World} (h : Go.RowKit.Below B a w) : ∀ n, Go.RowKit.Below B a (w.drewN n)
  | 0 => h
  | n + 1 => Go.RowKit.Below.drew (below_quietR h n)
end Go.Proofs.YtidnjnhmkhekeaaDoor.M
namespace Go.Proofs.YtidnjnhmkhekeaaDoor.Ref
open Go.ChangeShapes Go.WideShapes Go.ChangeAt Go.RowKit
open Go.Proofs.YtidnjnhmkhekeaaDoor.M
set_option linter.unusedVariables false

set_option maxRecDepth 20000 in
set_option maxHeartbeats 4000000 in
theorem rules_any (a : Option Addr) (l : List (Int × Value × List Int)) (n cap : Nat) (w : World) (hn : n = l.length) (hm : n ≤ maxLen) (hr : RulesIn w a l) :
    Calls Tryd.prog 18 #[.slice a n cap] w fun e w' => e = .returned (.int .i64 (rulesE (rulesL l))) ∧ Below w.heap.size w w' := by
  have hm' : n ≤ 9223372036854775807 := by unfold maxLen at hm; omega
  have HN := hide hn
  have HR := hide hr
  clear hn hr hm
  by_cases h8 : 8 < n
  · rw [rulesE_full (by rw [rulesL_len]; have := HN.out; omega)]
    have hz : (8 : Int) < n := by omega
    go_enter Tryd.func18, Tryd.ntmps18
    go_wp2
    go_ret
    exact ⟨rfl, Below.refl _ _⟩
  · rw [rulesE_go (by rw [rulesL_len]; have := HN.out; omega)]
    have hz : ¬ (8 : Int) < n := by omega
    go_enter Tryd.func18, Tryd.ntmps18
    go_wp2
    go_loopw [3] (fun s3 wr => ∃ k : Nat, k ≤ n ∧ s3 = .int .i64 k ∧ Hid (rulesF [] (rulesL l) = rulesF (regsTo l k) ((rulesL l).drop k)) ∧ Hid (Below w.heap.size w wr)) (fun s3 _ => n - (intOf s3).toNat)
    case atStart => exact ⟨0, by omega, rfl, rfl, Below.refl _ _⟩
    case round =>
      obtain ⟨k, hk, rfl, HF, HB⟩ := hrel
      by_cases hlt : k < n
      · have hlz : (k : Int) < n := by omega
        obtain ⟨⟨r, v, g⟩, hc⟩ : ∃ c, l[k]? = some c := ⟨l[k]'(by have := HN.out; omega), List.getElem?_eq_getElem (by have := HN.out; omega)⟩
        have HC := hide hc
        have HD := hide (drop_cons (rulesL_at hc))
        obtain ⟨b, off, ad, gc, rfl, _, hgm, hgc, hrow, c0, c1⟩ := (HR.out.below HB.out).at hc
        have HRW := hide hrow
        have hgm' : g.length ≤ 9223372036854775807 := by unfold maxLen at hgm; omega
        clear hc hrow hgm hgc
        simp only [] at HD
        have HBAD := hide (fun h => rulesF_bad (prev := regsTo l k) (c := (r, g)) (t := (rulesL l).drop (k + 1)) h)
        have HOK := hide (fun h => rulesF_ok (prev := regsTo l k) (c := (r, g)) (t := (rulesL l).drop (k + 1)) h)
        simp only [] at HBAD HOK
        cases hreg : isReg r with
        | false =>
          have hrr := isReg_false.1 hreg
          have E := hide (show rulesF [] (rulesL l) = 1 by rw [HF.out, HD.out, HBAD.out (by rw [ruleE_reg hreg]; decide), ruleE_reg hreg])
          clear hreg
          by_cases h0 : r < 0
          · clear hrr
            go_wp2
            go_ret
            exact ⟨by rw [E.out]; rfl, HB.out⟩
          · have h7 : 7 < r := by omega
            clear hrr
            go_wp2
            go_ret
            exact ⟨by rw [E.out]; rfl, HB.out⟩
        | true =>
          obtain ⟨hr0, hr8⟩ := isReg_iff.1 hreg
          have hr7 : ¬ 7 < r := by omega
          by_cases h12 : 12 < g.length
          · have h12z : (12 : Int) < g.length := by omega
            have E := hide (show rulesF [] (rulesL l) = 4 by rw [HF.out, HD.out, HBAD.out (by rw [ruleE_full hreg h12]; decide), ruleE_full hreg h12])
            clear h12
            go_wp2
            go_ret
            exact ⟨by rw [E.out]; rfl, HB.out⟩
          · have h12z : ¬ (12 : Int) < g.length := by omega
            have H12 := hide h12
            have HREG := hide hreg
            clear h12 hreg
            obtain ⟨wo, hwo⟩ : ∃ wo, wo = wr := ⟨_, rfl⟩
            subst hwo
            go_wp2
            go_loopw [4] (fun s4 w4 => ∃ j : Nat, j ≤ g.length ∧ s4 = .int .i64 j ∧ Hid (∀ (i : Nat) (x : Int), i < j → g[i]? = some x → isM x = true) ∧ Hid (w4 = wo)) (fun s4 _ => g.length - (intOf s4).toNat)
            case atStart => exact ⟨0, by omega, rfl, (fun i x h => by omega : ∀ (i : Nat) (x : Int), i < 0 → g[i]? = some x → isM x = true), hide rfl⟩
            case round =>
              obtain ⟨j, hj, rfl, HA, HW4⟩ := hrel
              obtain rfl := HW4.out
              by_cases hjl : j < g.length
              · have hjz : (j : Int) < g.length := by omega
                obtain ⟨x, hx⟩ : ∃ x, g[j]? = some x := ⟨g[j], List.getElem?_eq_getElem hjl⟩
                have HX := hide hx
                clear hx
                have hrow : ∃ b' off', ad = some ⟨b', off', none⟩ ∧ wr.cell? ⟨b', off' + j, none⟩ = some (.int .i64 x) := by
                  rcases HRW.out with h | ⟨b', off', h1, h2⟩
                  · have := HX.out; rw [h] at this; simp at this
                  · exact ⟨b', off', h1, h2 j x HX.out⟩
                obtain ⟨b', off', rfl, hcx⟩ := hrow
                cases hmx : isM x with
                | true =>
                  go_wp2_with (go_at_call 17; refine (is_any _ _).mono ?_; rintro e wr ⟨rfl, rfl⟩)
                  go_roundw
                  case rel => exact ⟨j + 1, by omega, by go_num, (show ∀ (i : Nat) (y : Int), i < j + 1 → g[i]? = some y → isM y = true from fun i y hi hy => by
                    by_cases e : i = j
                    · subst e; rw [HX.out] at hy; cases hy; exact hmx
                    · exact HA.out i y (by omega) hy), (by first | exact hide rfl | exact hide trivial)⟩
                  case measure => simp [intOf]; omega
                | false =>
                  have hng : okAll g = false := okAll_not HX.out hmx
                  have E := hide (show rulesF [] (rulesL l) = 1 by rw [HF.out, HD.out, HBAD.out (by rw [ruleE_good HREG.out H12.out hng]; decide), ruleE_good HREG.out H12.out hng])
                  clear hng
                  go_wp2_with (go_at_call 17; refine (is_any _ _).mono ?_; rintro e wr ⟨rfl, rfl⟩)
                  go_ret
                  exact ⟨by rw [E.out]; rfl, HB.out⟩
              · have hjz : ¬ (j : Int) < g.length := by omega
                have HG := hide (okAll_of (xs := g) fun i x hx => HA.out i x (by have := (List.getElem?_eq_some_iff.1 hx).1; omega) hx)
                clear HA hj
                obtain ⟨wo, hwo⟩ : ∃ wo, wo = wr := ⟨_, rfl⟩
                subst hwo
                go_wp2
                go_loopw [6] (fun s6 w6 => ∃ i : Nat, i ≤ k ∧ s6 = .int .i64 i ∧ Hid (∀ (m : Nat) (c : Int × Value × List Int), m < i → l[m]? = some c → c.1 ≠ r) ∧ Hid (Below wo.heap.size wo w6)) (fun s6 _ => k - (intOf s6).toNat)
                case atStart => exact ⟨0, by omega, rfl, (fun m c h => by omega : ∀ (m : Nat) (c : Int × Value × List Int), m < 0 → l[m]? = some c → c.1 ≠ r), Below.refl _ _⟩
                case round =>
                  obtain ⟨i, hi, rfl, HP, HB6⟩ := hrel
                  have HB7 := hide (below_on HB.out HB6.out)
                  by_cases hik : i < k
                  · have hikz : (i : Int) < k := by omega
                    have hinz : (i : Int) < n := by omega
                    obtain ⟨⟨r', v', g'⟩, hc'⟩ : ∃ c, l[i]? = some c := ⟨l[i]'(by have := HN.out; omega), List.getElem?_eq_getElem (by have := HN.out; omega)⟩
                    have HC' := hide hc'
                    obtain ⟨b1, off1, _, _, e1, _, _, _, _, d0, _⟩ := (HR.out.below HB7.out).at hc'
                    obtain ⟨b2, off2, _, _, e2, _, _, _, _, f0, _⟩ := (HR.out.below HB7.out).at HC.out
                    cases e1
                    cases e2
                    clear hc' c0 c1
                    by_cases he : r' = r
                    · subst he
                      have hct := regsTo_has hik HC'.out
                      have E := hide (show rulesF [] (rulesL l) = 7 by rw [HF.out, HD.out, HBAD.out (by rw [ruleE_clash HREG.out H12.out HG.out hct]; decide), ruleE_clash HREG.out H12.out HG.out hct])
                      clear hct
                      go_wp2_with (fail)
                      go_quiet (fail)
                      go_wp2
                      go_ret
                      exact ⟨by rw [E.out]; rfl, below_quietR HB7.out _⟩
                    · go_wp2_with (fail)
                      go_quiet (fail)
                      go_wp2
                      go_roundw
                      case rel => exact ⟨i + 1, by omega, by go_num, (show ∀ (m : Nat) (c : Int × Value × List Int), m < i + 1 → l[m]? = some c → c.1 ≠ r from fun m c hm' hc2 => by
                        by_cases e : m = i
                        · subst e; rw [HC'.out] at hc2; cases hc2; exact he
                        · exact HP.out m c (by omega) hc2), below_quietR HB6.out _⟩
                      case measure => simp [intOf]; omega
                  · have hikz : ¬ (i : Int) < k := by omega
                    have hik2 : i = k := by omega
                    have hno : (regsTo l k).contains r = false := regsTo_not (fun m c hm' hc2 => HP.out m c (by omega) hc2)
                    have E := hide (show rulesF [] (rulesL l) = rulesF (regsTo l (k + 1)) ((rulesL l).drop (k + 1)) by rw [HF.out, HD.out, HOK.out (ruleE_ok HREG.out H12.out HG.out hno), regsTo_succ HC.out])
                    clear hno hik2
                    go_wp2
                    go_roundw
                    case rel => exact ⟨k + 1, by omega, by go_num, E.out, HB7.out⟩
                    case measure => simp [intOf]; omega
      · have hlz : ¬ (k : Int) < n := by omega
        have E := hide (show rulesF [] (rulesL l) = 0 by rw [HF.out, List.drop_eq_nil_of_le (by rw [rulesL_len]; have := HN.out; omega)]; rfl)
        go_wp2
        go_ret
        exact ⟨by rw [E.out]; rfl, HB.out⟩
end Go.Proofs.YtidnjnhmkhekeaaDoor.Ref
