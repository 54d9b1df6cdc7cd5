/-
  Contracts of package measure's functions (step, isMeasure, Two, row, All, Of) over this translation: what each returns, and that memory stays as it was.
-/
import Derived.Test.YtdbpeikijonjmaaDoorRows
import Derived.Test.YtdbpeikijonjmaaDoorMath
import Derived.Test.YtdbpeikijonjmaaDoorInts
import Derived.WalkKit
import Derived.ProofKit
import Derived.Handy
namespace Go.Proofs.YtdbpeikijonjmaaDoor.Measure
open Go.ChangeShapes Go.WideShapes Go.ChangeAt Go.RowKit
open Go.Proofs.YtdbpeikijonjmaaDoor.M
set_option linter.unusedVariables false

theorem ret_pair {a b : Int} {v : Value} (h : a = b) : Ending.returned (.tuple #[.int .i64 a, v]) = .returned (.tuple #[.int .i64 b, v]) := by rw [h]

theorem step_any (m t n : Int) (w : World) (hm0 : 0 ≤ m) (hm1 : m < 1000003) (ht0 : 0 ≤ t) (ht1 : t < 10000) (hn0 : 0 ≤ n) (hn1 : n < 1000003) :
    Calls Tryd.prog 31 #[.int .i64 m, .int .i64 t, .int .i64 n] w fun e w' => e = .returned (.int .i64 (stp t m n)) ∧ w' = w := by
  have hp0 : 0 ≤ t * m := Int.mul_nonneg ht0 hm0
  have hp1 : t * m ≤ 10000 * 1000003 := Int.mul_le_mul (by omega) (by omega) hm0 (by omega)
  go_enter Tryd.func31, Tryd.ntmps31
  go_wp2
  go_ret
  exact ⟨rfl, rfl⟩

theorem of_full (s : ByteArray) (w : World) (hn : 24 < s.size) (hm : s.size ≤ 1152921504606846976) :
    Calls Tryd.prog 21 #[.string s] w fun e w' => e = .returned (.tuple #[.int .i64 0, .iface 45 (.int .i64 4)]) ∧ w' = w := by
  go_enter Tryd.func21, Tryd.ntmps21
  go_wp2
  go_ret2
  exact ⟨rfl, rfl⟩

set_option maxHeartbeats 400000 in
theorem of_ok (s : ByteArray) (w : World) (hl : s.size ≤ 24) :
    Calls Tryd.prog 21 #[.string s] w fun e w' => e = .returned (.tuple #[.int .i64 (ofFrom 1 s.data.toList), .nilIface]) ∧ w' = w := by
  go_enter Tryd.func21, Tryd.ntmps21
  go_wp2
  go_loop [4, 12] (fun m i => ∃ k : Nat, k ≤ s.size ∧ i = .int .i64 k ∧ m = .int .i64 (ofFrom 1 (s.data.toList.take k))) (fun _ i => s.size - (intOf i).toNat)
  case atStart => exact ⟨0, by omega, rfl, rfl⟩
  case round =>
    obtain ⟨k, hk, rfl, rfl⟩ := hrel
    have hrg := ofFrom_range 1 (s.data.toList.take k) (by omega) (by omega)
    obtain ⟨hr0, hr1⟩ := hrg
    by_cases hlt : k < s.size
    · have hb := (s[k]).toNat_lt
      have HX : Hid (s.data.toList[k]? = some s[k]) := by show s.data.toList[k]? = some s[k]; rw [List.getElem?_eq_getElem (by simpa using hlt)]; rfl
      go_wp2_with (go_at_call 31; refine (step_any _ _ _ _ (by omega) (by omega) (by omega) (by omega) (by omega) (by omega)).mono ?_; rintro e w' ⟨rfl, rfl⟩)
      go_round
      case rel => exact ⟨k + 1, by omega, by go_num, by rw [ofFrom_take HX.out]⟩
      case measure => simp [intOf]; omega
    · go_wp2
      go_ret2
      have htk : s.data.toList.take k = s.data.toList := List.take_of_length_le (by simp; omega)
      exact ⟨ret_pair (by rw [htk]), rfl⟩

theorem of_any (s : ByteArray) (w : World) (hm : s.size ≤ 1152921504606846976) :
    Calls Tryd.prog 21 #[.string s] w fun e w' => e = .returned (.tuple #[.int .i64 (ofV s), errV 45 (ofC s)]) ∧ w' = w := by
  unfold ofV ofC
  by_cases h : 24 < s.size
  · rw [if_pos h, if_pos h]; exact of_full s w h hm
  · rw [if_neg h, if_neg h]; exact of_ok s w (by omega)
end Go.Proofs.YtdbpeikijonjmaaDoor.Measure
