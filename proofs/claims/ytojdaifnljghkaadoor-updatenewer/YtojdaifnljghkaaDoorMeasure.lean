/-
  Contracts of package measure's functions (step, isMeasure, Two, row, All, Of) over this translation: what each returns, and that memory stays as it was.
-/
import Derived.Test.YtojdaifnljghkaaDoorRows
import Derived.Test.YtojdaifnljghkaaDoorMath
import Derived.Test.YtojdaifnljghkaaDoorInts
import Derived.WalkKit
import Derived.ProofKit
import Derived.Handy
namespace Go.Proofs.YtojdaifnljghkaaDoor.Measure
open Go.ChangeShapes Go.WideShapes Go.ChangeAt Go.RowKit
open Go.Proofs.YtojdaifnljghkaaDoor.M
set_option linter.unusedVariables false

theorem ret_pair {a b : Int} {v : Value} (h : a = b) : Ending.returned (.tuple #[.int .i64 a, v]) = .returned (.tuple #[.int .i64 b, v]) := by rw [h]

theorem step_any (m t n : Int) (w : World) (hm0 : 0 ≤ m) (hm1 : m < 1000003) (ht0 : 0 ≤ t) (ht1 : t < 10000) (hn0 : 0 ≤ n) (hn1 : n < 1000003) :
    Calls Tryd.prog 63 #[.int .i64 m, .int .i64 t, .int .i64 n] w fun e w' => e = .returned (.int .i64 (stp t m n)) ∧ w' = w := by
  have hp0 : 0 ≤ t * m := Int.mul_nonneg ht0 hm0
  have hp1 : t * m ≤ 10000 * 1000003 := Int.mul_le_mul (by omega) (by omega) hm0 (by omega)
  go_enter Tryd.func63, Tryd.ntmps63
  go_wp2
  go_ret
  exact ⟨rfl, rfl⟩

theorem is_any (n : Int) (w : World) :
    Calls Tryd.prog 78 #[.int .i64 n] w fun e w' => e = .returned (.bool (isM n)) ∧ w' = w := by
  by_cases h0 : 0 ≤ n
  · by_cases h1 : n < 1000003
    · rw [isM_iff.2 ⟨h0, h1⟩]
      go_enter Tryd.func78, Tryd.ntmps78
      go_wp2
      go_ret
      exact ⟨rfl, rfl⟩
    · rw [isM_false.2 (by omega)]
      go_enter Tryd.func78, Tryd.ntmps78
      go_wp2
      go_ret
      exact ⟨rfl, rfl⟩
  · rw [isM_false.2 (by omega)]
    go_enter Tryd.func78, Tryd.ntmps78
    go_wp2
    go_ret
    exact ⟨rfl, rfl⟩

theorem two_ok (a b : Int) (w : World) (ha : isM a = true) (hb : isM b = true) :
    Calls Tryd.prog 73 #[.int .i64 a, .int .i64 b] w fun e w' => e = .returned (.tuple #[.int .i64 (stp 7919 a b), .nilIface]) ∧ w' = w := by
  have h1 := isM_iff.1 ha
  have h2 := isM_iff.1 hb
  obtain ⟨a0, a1⟩ := h1
  obtain ⟨b0, b1⟩ := h2
  go_enter Tryd.func73, Tryd.ntmps73
  go_wp2_with (first | (go_at_call 78; refine (is_any _ _).mono ?_; rintro e w' ⟨rfl, rfl⟩) | (go_at_call 63; refine (step_any _ _ _ _ (by omega) (by omega) (by omega) (by omega) (by omega) (by omega)).mono ?_; rintro e w' ⟨rfl, rfl⟩))
  go_ret2
  exact ⟨rfl, rfl⟩

theorem two_bad (a b : Int) (w : World) (h : isM a = false ∨ isM b = false) :
    Calls Tryd.prog 73 #[.int .i64 a, .int .i64 b] w fun e w' => e = .returned (.tuple #[.int .i64 0, .iface 72 (.int .i64 1)]) ∧ w' = w := by
  cases ha : isM a with
  | false =>
    go_enter Tryd.func73, Tryd.ntmps73
    go_wp2_with (go_at_call 78; refine (is_any _ _).mono ?_; rintro e w' ⟨rfl, rfl⟩)
    go_ret2
    exact ⟨rfl, rfl⟩
  | true =>
    have hb : isM b = false := by rcases h with h | h; · rw [h] at ha; cases ha
                                  · exact h
    go_enter Tryd.func73, Tryd.ntmps73
    go_wp2_with (go_at_call 78; refine (is_any _ _).mono ?_; rintro e w' ⟨rfl, rfl⟩)
    go_ret2
    exact ⟨rfl, rfl⟩

theorem row_full (a : Option Addr) (n cap : Nat) (w : World) (hn : 30 < n) (hm : n ≤ maxLen) :
    Calls Tryd.prog 70 #[.slice a n cap] w fun e w' => e = .returned (.tuple #[.int .i64 0, .iface 72 (.int .i64 4)]) ∧ w' = w := by
  unfold maxLen at hm
  go_enter Tryd.func70, Tryd.ntmps70
  go_wp2
  go_ret2
  exact ⟨rfl, rfl⟩

set_option maxHeartbeats 400000 in
theorem row_le (a : Option Addr) (xs : List Int) (n cap : Nat) (w : World) (hn : n = xs.length) (hl : n ≤ 30) (hr : Row w a xs) :
    Calls Tryd.prog 70 #[.slice a n cap] w fun e w' =>
      ((okAll xs = true ∧ e = .returned (.tuple #[.int .i64 (allFrom 0 xs), .nilIface])) ∨ (okAll xs = false ∧ e = .returned (.tuple #[.int .i64 0, .iface 72 (.int .i64 1)]))) ∧ w' = w := by
  have hlen : ∀ k, k < n → ∃ x, xs[k]? = some x := fun k hk => ⟨xs[k]'(by omega), List.getElem?_eq_getElem (by omega)⟩
  have HL : Hid (∀ k, k < n → ∃ x, xs[k]? = some x) := hlen
  have HN : Hid (n = xs.length) := hn
  have HR : Hid (Row w a xs) := hr
  clear hlen hn hr
  go_enter Tryd.func70, Tryd.ntmps70
  go_wp2
  go_loop [4, 15] (fun m i => ∃ k : Nat, k ≤ n ∧ i = .int .i64 k ∧ m = .int .i64 (allFrom 0 (xs.take k)) ∧ ∀ (j : Nat) (x : Int), j < k → xs[j]? = some x → isM x = true) (fun _ i => n - (intOf i).toNat)
  case atStart => exact ⟨0, by omega, rfl, rfl, fun j x h => by omega⟩
  case round =>
    obtain ⟨k, hk, rfl, rfl, hall⟩ := hrel
    have HA : Hid (∀ (j : Nat) (x : Int), j < k → xs[j]? = some x → isM x = true) := hall
    clear hall
    have hrg := allFrom_range 0 (xs.take k) (by omega) (by omega)
    obtain ⟨hr0, hr1⟩ := hrg
    by_cases hlt : k < n
    · obtain ⟨x, hx⟩ := HL.out k hlt
      have HX : Hid (xs[k]? = some x) := hx
      clear hx
      have hrow : ∃ b off, a = some ⟨b, off, none⟩ ∧ w.cell? ⟨b, off + k, none⟩ = some (.int .i64 x) := by
        rcases HR.out with h | ⟨b, off, h1, h2⟩
        · have := HX.out; rw [h] at this; simp at this
        · exact ⟨b, off, h1, h2 k x HX.out⟩
      obtain ⟨b, off, rfl, hc⟩ := hrow
      cases hmx : isM x with
      | true =>
        go_wp2_with (go_at_call 73; refine (two_ok _ _ _ (isM_iff.2 ⟨by assumption, by assumption⟩) (by assumption)).mono ?_; rintro e w' ⟨rfl, rfl⟩)
        go_round
        case rel => exact ⟨k + 1, by omega, by go_num, by rw [allFrom_take HX.out], fun j y hj hy => by
          by_cases e : j = k
          · subst e; rw [HX.out] at hy; cases hy; exact hmx
          · exact HA.out j y (by omega) hy⟩
        case measure => simp [intOf]; omega
      | false =>
        go_wp2_with (go_at_call 73; refine (two_bad _ _ _ (Or.inr (by assumption))).mono ?_; rintro e w' ⟨rfl, rfl⟩)
        go_ret2
        exact ⟨Or.inr ⟨okAll_not HX.out hmx, rfl⟩, rfl⟩
    · go_wp2
      go_ret2
      have hkn : k = n := by omega
      have htk : xs.take k = xs := List.take_of_length_le (by have := HN.out; omega)
      refine ⟨Or.inl ⟨okAll_of fun j x hx => HA.out j x ?_ hx, ?_⟩, rfl⟩
      · have := (List.getElem?_eq_some_iff.1 hx).1
        have := HN.out
        omega
      · exact ret_pair (by rw [htk])

theorem row_ok (a : Option Addr) (xs : List Int) (n cap : Nat) (w : World) (hn : n = xs.length) (hl : n ≤ 30) (hr : Row w a xs) (ho : okAll xs = true) :
    Calls Tryd.prog 70 #[.slice a n cap] w fun e w' => e = .returned (.tuple #[.int .i64 (allFrom 0 xs), .nilIface]) ∧ w' = w := by
  refine (row_le a xs n cap w hn hl hr).mono ?_
  rintro e w' ⟨⟨_, he⟩ | ⟨hb, _⟩, hw⟩
  · exact ⟨he, hw⟩
  · rw [ho] at hb; cases hb
theorem row_bad (a : Option Addr) (xs : List Int) (n cap : Nat) (w : World) (hn : n = xs.length) (hl : n ≤ 30) (hr : Row w a xs) (ho : okAll xs = false) :
    Calls Tryd.prog 70 #[.slice a n cap] w fun e w' => e = .returned (.tuple #[.int .i64 0, .iface 72 (.int .i64 1)]) ∧ w' = w := by
  refine (row_le a xs n cap w hn hl hr).mono ?_
  rintro e w' ⟨⟨hb, _⟩ | ⟨_, he⟩, hw⟩
  · rw [ho] at hb; cases hb
  · exact ⟨he, hw⟩

theorem all_full (a : Option Addr) (n cap : Nat) (w : World) (hn : 30 < n) (hm : n ≤ maxLen) :
    Calls Tryd.prog 64 #[.slice a n cap] w fun e w' => e = .returned (.tuple #[.int .i64 0, .iface 72 (.int .i64 4)]) ∧ w' = w := by
  go_enter Tryd.func64, Tryd.ntmps64
  go_wp2_with (go_at_call 70; refine (row_full _ _ _ _ hn hm).mono ?_; rintro e w' ⟨rfl, rfl⟩)
  go_ret2
  exact ⟨rfl, rfl⟩
theorem all_ok (a : Option Addr) (xs : List Int) (n cap : Nat) (w : World) (hn : n = xs.length) (hl : n ≤ 30) (hr : Row w a xs) (ho : okAll xs = true) :
    Calls Tryd.prog 64 #[.slice a n cap] w fun e w' => e = .returned (.tuple #[.int .i64 (allFrom 0 xs), .nilIface]) ∧ w' = w := by
  have c := row_ok a xs n cap w hn hl hr ho
  have C : Hid (Calls Tryd.prog 70 #[.slice a n cap] w fun e w' => e = .returned (.tuple #[.int .i64 (allFrom 0 xs), .nilIface]) ∧ w' = w) := c
  clear c hn ho
  go_enter Tryd.func64, Tryd.ntmps64
  go_wp2_with (go_at_call 70; refine C.out.mono ?_; rintro e w' ⟨rfl, rfl⟩)
  go_ret2
  exact ⟨rfl, rfl⟩
theorem all_bad (a : Option Addr) (xs : List Int) (n cap : Nat) (w : World) (hn : n = xs.length) (hl : n ≤ 30) (hr : Row w a xs) (ho : okAll xs = false) :
    Calls Tryd.prog 64 #[.slice a n cap] w fun e w' => e = .returned (.tuple #[.int .i64 0, .iface 72 (.int .i64 1)]) ∧ w' = w := by
  have c := row_bad a xs n cap w hn hl hr ho
  have C : Hid (Calls Tryd.prog 70 #[.slice a n cap] w fun e w' => e = .returned (.tuple #[.int .i64 0, .iface 72 (.int .i64 1)]) ∧ w' = w) := c
  clear c hn ho
  go_enter Tryd.func64, Tryd.ntmps64
  go_wp2_with (go_at_call 70; refine C.out.mono ?_; rintro e w' ⟨rfl, rfl⟩)
  go_ret2
  exact ⟨rfl, rfl⟩

theorem of_full (s : ByteArray) (w : World) (hn : 24 < s.size) (hm : s.size ≤ 1152921504606846976) :
    Calls Tryd.prog 51 #[.string s] w fun e w' => e = .returned (.tuple #[.int .i64 0, .iface 72 (.int .i64 4)]) ∧ w' = w := by
  go_enter Tryd.func51, Tryd.ntmps51
  go_wp2
  go_ret2
  exact ⟨rfl, rfl⟩

set_option maxHeartbeats 400000 in
theorem of_ok (s : ByteArray) (w : World) (hl : s.size ≤ 24) :
    Calls Tryd.prog 51 #[.string s] w fun e w' => e = .returned (.tuple #[.int .i64 (ofFrom 1 s.data.toList), .nilIface]) ∧ w' = w := by
  go_enter Tryd.func51, Tryd.ntmps51
  go_wp2
  go_loop [4, 12] (fun m i => ∃ k : Nat, k ≤ s.size ∧ i = .int .i64 k ∧ m = .int .i64 (ofFrom 1 (s.data.toList.take k))) (fun _ i => s.size - (intOf i).toNat)
  case atStart => exact ⟨0, by omega, rfl, rfl⟩
  case round =>
    obtain ⟨k, hk, rfl, rfl⟩ := hrel
    have hrg := ofFrom_range 1 (s.data.toList.take k) (by omega) (by omega)
    obtain ⟨hr0, hr1⟩ := hrg
    by_cases hlt : k < s.size
    · have hb := (s[k]).toNat_lt
      have HX : Hid (s.data.toList[k]? = some s[k]) := by show s.data.toList[k]? = some s[k]; rw [List.getElem?_eq_getElem (by simpa using hlt)]; rfl
      go_wp2_with (go_at_call 63; refine (step_any _ _ _ _ (by omega) (by omega) (by omega) (by omega) (by omega) (by omega)).mono ?_; rintro e w' ⟨rfl, rfl⟩)
      go_round
      case rel => exact ⟨k + 1, by omega, by go_num, by rw [ofFrom_take HX.out]⟩
      case measure => simp [intOf]; omega
    · go_wp2
      go_ret2
      have htk : s.data.toList.take k = s.data.toList := List.take_of_length_le (by simp; omega)
      exact ⟨ret_pair (by rw [htk]), rfl⟩

theorem of_any (s : ByteArray) (w : World) (hm : s.size ≤ 1152921504606846976) :
    Calls Tryd.prog 51 #[.string s] w fun e w' => e = .returned (.tuple #[.int .i64 (ofV s), errV 72 (ofC s)]) ∧ w' = w := by
  unfold ofV ofC
  by_cases h : 24 < s.size
  · rw [if_pos h, if_pos h]; exact of_full s w h hm
  · rw [if_neg h, if_neg h]; exact of_ok s w (by omega)
theorem two_any (a b : Int) (w : World) :
    Calls Tryd.prog 73 #[.int .i64 a, .int .i64 b] w fun e w' => e = .returned (.tuple #[.int .i64 (twoV a b), errV 72 (twoC a b)]) ∧ w' = w := by
  by_cases h : isM a = true ∧ isM b = true
  · rw [twoV_ok h.1 h.2, twoC_ok h.1 h.2]; exact two_ok a b w h.1 h.2
  · rw [twoV_bad h, twoC_bad h]
    refine two_bad a b w ?_
    cases ha : isM a with
    | false => exact Or.inl rfl
    | true => cases hb : isM b with
      | false => exact Or.inr rfl
      | true => exact absurd ⟨ha, hb⟩ h
theorem all_any (a : Option Addr) (xs : List Int) (n cap : Nat) (w : World) (hn : n = xs.length) (hm : n ≤ maxLen) (hr : Row w a xs) :
    Calls Tryd.prog 64 #[.slice a n cap] w fun e w' => e = .returned (.tuple #[.int .i64 (allV xs), errV 72 (allC xs)]) ∧ w' = w := by
  unfold allV allC
  by_cases h : 30 < xs.length
  · rw [if_pos h, if_pos h]; exact all_full a n cap w (by omega) hm
  · rw [if_neg h, if_neg h]
    cases ho : okAll xs with
    | true => exact all_ok a xs n cap w hn (by omega) hr ho
    | false => exact all_bad a xs n cap w hn (by omega) hr ho
end Go.Proofs.YtojdaifnljghkaaDoor.Measure
