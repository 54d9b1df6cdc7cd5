/-
  The walk of stairlaw1.MeasureTells: it returns true, and memory that was there stays as it was.
-/
import Derived.Test.YtlmalnbfmokpoaaDoorMeasure
import Derived.Test.YtlmalnbfmokpoaaDoorRef1
import Derived.Test.YtlmalnbfmokpoaaDoorAs
import Derived.Deep.DeepCutAuto
namespace Go.Proofs.YtlmalnbfmokpoaaDoor.Tells
open Go.ChangeShapes Go.WideShapes Go.ChangeAt Go.RowKit
open Go.Proofs.YtlmalnbfmokpoaaDoor.M Go.Proofs.YtlmalnbfmokpoaaDoor.Measure
set_option linter.unusedVariables false

set_option maxRecDepth 20000 in
set_option maxHeartbeats 2000000 in
theorem walk (s : ByteArray) (a b : Int) (ad : Option Addr) (n cap : Nat) (xs : List Int) (w : World) (hs : s.size ≤ 140737488351232) (hn : n = xs.length) (hm : n ≤ maxLen) (hr : Row w ad xs) (hg : As.Handle w) :
    Calls Tryd.prog 3 #[.string s, .int .i64 a, .int .i64 b, .slice ad n cap] w fun e w' => e = .returned (.bool true) ∧ Below w.heap.size w w' := by
  have HN := hide hn
  have HR := hide hr
  clear hn hr
  go_enter Tryd.func3, Tryd.ntmps3
  go_upto_if 22 with (fail)
  go_cut [9, 10] (fun s9 s10 w1 => s9 = .int .i64 (ofC s) ∧ s10 = .int .i64 (ofV s) ∧ w1 = w)
  case first =>
    by_cases h : 24 < s.size
    · go_wp2
      go_meet
      exact ⟨by unfold ofC; rw [if_pos h], by unfold ofV; rw [if_pos h], rfl⟩
    · go_wp2_with (fail)
      refine (Ref.text_ok s _ (by omega)).mono ?_
      rintro e w' ⟨rfl, rfl⟩
      go_wp2
      go_meet
      exact ⟨by unfold ofC; rw [if_neg h], by unfold ofV; rw [if_neg h], rfl⟩
  case rest =>
    obtain ⟨rfl, rfl, rfl⟩ := hcut
    go_wp2_with (fail)
    refine (of_any s _ (by omega)).mono ?_
    rintro e wo ⟨rfl, rfl⟩
    go_wp2_with (fail)
    refine (As.same_is _ _ _ rfl hg).mono ?_
    rintro e w1 ⟨rfl, hb1⟩
    have HB1 := hide hb1
    have hg1 := hg.below hb1
    clear hb1
    go_wp2_with (fail)
    refine (Ref.is_any _ _).mono ?_
    rintro e w2 ⟨rfl, rfl⟩
    go_wp2_with (fail)
    refine (Ref.is_any _ _).mono ?_
    rintro e w3 ⟨rfl, rfl⟩
    go_upto_region 12 with (fail)
    go_cut [14, 15, 45] (fun _ _ s45 w4 => s45 = .bool (both a b) ∧ w4 = w3)
    case first =>
      cases ha : isM a with
      | true =>
        have E := hide (both_left (b := b) ha)
        go_wp2
        go_meet
        exact ⟨by rw [E.out], rfl⟩
      | false =>
        have E := hide (both_no (b := b) ha)
        go_wp2
        go_meet
        exact ⟨by rw [E.out], rfl⟩
    case rest =>
    obtain ⟨rfl, rfl⟩ := hcut
    go_upto_if 45 with (fail)
    go_cut [9, 10, 45] (fun s9 s10 _ w5 => s9 = .int .i64 (twoC a b) ∧ s10 = .int .i64 (twoV a b) ∧ w5 = wc)
    case first =>
      cases h : both a b with
      | true =>
        have H := hide (both_iff.1 h)
        have E2 := hide (twoC_ok H.out.1 H.out.2)
        have E3 := hide (twoV_ok H.out.1 H.out.2)
        go_wp2_with (fail)
        refine (Ref.two_ok _ _ _ H.out.1 H.out.2).mono ?_
        rintro e w6 ⟨rfl, rfl⟩
        go_wp2
        go_meet
        exact ⟨by rw [E2.out], by rw [E3.out], rfl⟩
      | false =>
        have H := hide (fun hn => Bool.false_ne_true (h.symm.trans (both_iff.2 hn)) : ¬ (isM a = true ∧ isM b = true))
        have E2 := hide (twoC_bad H.out)
        have E3 := hide (twoV_bad H.out)
        go_wp2
        go_meet
        exact ⟨by rw [E2.out], by rw [E3.out], rfl⟩
    case rest =>
    obtain ⟨rfl, rfl, rfl⟩ := hcut
    go_wp2_with (fail)
    refine (two_any a b _).mono ?_
    rintro e w4 ⟨rfl, rfl⟩
    go_wp2_with (fail)
    refine (As.same_is _ _ _ rfl hg1).mono ?_
    rintro e w5 ⟨rfl, hb5⟩
    have hg5 := hg1.below hb5
    have HB5 := hide (HB1.out.trans (hb5.mono HB1.out.size))
    have HR5 := hide (HR.out.below HB5.out)
    clear hb5 HB1 hg1 HR
    have hm' : n ≤ 9223372036854775807 := by unfold maxLen at hm; omega
    by_cases hl : n ≤ 30
    · have HL : Hid (∀ k, k < n → ∃ x, xs[k]? = some x) := fun k hk => ⟨xs[k]'(by have := HN.out; omega), List.getElem?_eq_getElem (by have := HN.out; omega)⟩
      cases ho : okAll xs with
      | true =>
        have HO := hide ho
        clear ho
        go_wp2
        go_loop [9, 17] (fun e i => ∃ k : Nat, k ≤ n ∧ i = .int .i64 k ∧ e = .int .i64 0) (fun _ i => n - (intOf i).toNat)
        case atStart => exact ⟨0, by omega, rfl, rfl⟩
        case round =>
          obtain ⟨k, hk, rfl, rfl⟩ := hrel
          by_cases hlt : k < n
          · obtain ⟨x, hx⟩ := HL.out k hlt
            have HX := hide hx
            clear hx
            have hmx : isM x = true := okAll_at HO.out HX.out
            have hrow : ∃ b off, ad = some ⟨b, off, none⟩ ∧ w5.cell? ⟨b, off + k, none⟩ = some (.int .i64 x) := by
              rcases HR5.out with h | ⟨b, off, h1, h2⟩
              · have := HX.out; rw [h] at this; simp at this
              · exact ⟨b, off, h1, h2 k x HX.out⟩
            obtain ⟨b0, off, rfl, hc⟩ := hrow
            go_wp2_with (go_at_call 8; refine (Ref.is_any _ _).mono ?_; rintro e w6 ⟨rfl, rfl⟩)
            go_round
            case rel => exact ⟨k + 1, by omega, by go_num, rfl⟩
            case measure => simp [intOf]; omega
          · go_wp2_with (fail)
            refine (Ref.all_ok _ xs _ _ _ HN.out (by omega) HR5.out HO.out).mono ?_
            rintro e w6 ⟨rfl, rfl⟩
            go_wp2_with (fail)
            refine (all_ok _ xs _ _ _ HN.out hl HR5.out HO.out).mono ?_
            rintro e w7 ⟨rfl, rfl⟩
            go_wp2_with (fail)
            refine (As.same_any _ 0 _ _ (Or.inl ⟨rfl, rfl⟩) hg5).mono ?_
            rintro e w8 ⟨rfl, hb8⟩
            have HB8 := hide (HB5.out.trans (hb8.mono HB5.out.size))
            clear hb8
            go_wp2
            go_ret
            exact ⟨rfl, HB8.out⟩
      | false =>
        have HO := hide ho
        clear ho
        go_wp2
        go_loop [9, 17] (fun e i => ∃ k : Nat, k ≤ n ∧ i = .int .i64 k ∧ ((e = .int .i64 0 ∧ ∀ (j : Nat) (x : Int), j < k → xs[j]? = some x → isM x = true) ∨ e = .int .i64 1)) (fun _ i => n - (intOf i).toNat)
        case atStart => exact ⟨0, by omega, rfl, Or.inl ⟨rfl, fun j x h => by omega⟩⟩
        case round =>
          obtain ⟨k, hk, rfl, hE⟩ := hrel
          rcases hE with ⟨rfl, hall⟩ | rfl
          · have HA := hide hall
            clear hall
            by_cases hlt : k < n
            · obtain ⟨x, hx⟩ := HL.out k hlt
              have HX := hide hx
              clear hx
              have hrow : ∃ b off, ad = some ⟨b, off, none⟩ ∧ w5.cell? ⟨b, off + k, none⟩ = some (.int .i64 x) := by
                rcases HR5.out with h | ⟨b, off, h1, h2⟩
                · have := HX.out; rw [h] at this; simp at this
                · exact ⟨b, off, h1, h2 k x HX.out⟩
              obtain ⟨b0, off, rfl, hc⟩ := hrow
              cases hmx : isM x with
              | true =>
                go_wp2_with (go_at_call 8; refine (Ref.is_any _ _).mono ?_; rintro e w6 ⟨rfl, rfl⟩)
                go_round
                case rel => exact ⟨k + 1, by omega, by go_num, Or.inl ⟨rfl, fun j y hj hy => by
                  by_cases e : j = k
                  · subst e; rw [HX.out] at hy; cases hy; exact hmx
                  · exact HA.out j y (by omega) hy⟩⟩
                case measure => simp [intOf]; omega
              | false =>
                go_wp2_with (go_at_call 8; refine (Ref.is_any _ _).mono ?_; rintro e w6 ⟨rfl, rfl⟩)
                go_round
                case rel => exact ⟨k + 1, by omega, by go_num, Or.inr rfl⟩
                case measure => simp [intOf]; omega
            · exfalso
              have h1 : okAll xs = true := okAll_of fun j x hx => HA.out j x (by have := (List.getElem?_eq_some_iff.1 hx).1; have := HN.out; omega) hx
              rw [HO.out] at h1
              cases h1
          · by_cases hlt : k < n
            · go_wp2_with (fail)
              refine (all_bad _ xs _ _ _ HN.out hl HR5.out HO.out).mono ?_
              rintro e w7 ⟨rfl, rfl⟩
              go_wp2_with (fail)
              refine (As.same_any _ 1 _ _ (Or.inr rfl) hg5).mono ?_
              rintro e w8 ⟨rfl, hb8⟩
              have HB8 := hide (HB5.out.trans (hb8.mono HB5.out.size))
              clear hb8
              go_wp2
              go_ret
              exact ⟨rfl, HB8.out⟩
            · go_wp2_with (fail)
              refine (all_bad _ xs _ _ _ HN.out hl HR5.out HO.out).mono ?_
              rintro e w7 ⟨rfl, rfl⟩
              go_wp2_with (fail)
              refine (As.same_any _ 1 _ _ (Or.inr rfl) hg5).mono ?_
              rintro e w8 ⟨rfl, hb8⟩
              have HB8 := hide (HB5.out.trans (hb8.mono HB5.out.size))
              clear hb8
              go_wp2
              go_ret
              exact ⟨rfl, HB8.out⟩
    · go_wp2
      refine wp_loop_rounds 1 ?_
      rw [rounds_succ]
      go_wp2_with (fail)
      refine (all_full _ _ _ _ (by omega) hm).mono ?_
      rintro e w7 ⟨rfl, rfl⟩
      go_wp2_with (fail)
      refine (As.same_any _ 4 _ _ (Or.inr rfl) hg5).mono ?_
      rintro e w8 ⟨rfl, hb8⟩
      have HB8 := hide (HB5.out.trans (hb8.mono HB5.out.size))
      clear hb8
      go_wp2
      go_ret
      exact ⟨rfl, HB8.out⟩
end Go.Proofs.YtlmalnbfmokpoaaDoor.Tells
