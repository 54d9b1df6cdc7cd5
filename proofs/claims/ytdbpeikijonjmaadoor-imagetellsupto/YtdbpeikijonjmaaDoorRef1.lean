/-
  Contracts of what package stairref1 says on measures (Is, Text, Two, All): each returns what the plain mathematics says, and memory stays as it was.
-/
import Derived.Test.YtdbpeikijonjmaaDoorRows
import Derived.Test.YtdbpeikijonjmaaDoorInts
import Derived.WalkKit
import Derived.ProofKit
import Derived.Handy
namespace Go.Proofs.YtdbpeikijonjmaaDoor.Ref
open Go.ChangeShapes Go.WideShapes Go.ChangeAt Go.RowKit
open Go.Proofs.YtdbpeikijonjmaaDoor.M
set_option linter.unusedVariables false

theorem ret_int {k : IntKind} {a b : Int} (h : a = b) : Ending.returned (.int k a) = .returned (.int k b) := by rw [h]

set_option maxHeartbeats 400000 in
theorem text_ok (s : ByteArray) (w : World) (hl : s.size ≤ 24) :
    Calls Tryd.prog 10 #[.string s] w fun e w' => e = .returned (.int .i64 (ofFrom 1 s.data.toList)) ∧ w' = w := by
  go_enter Tryd.func10, Tryd.ntmps10
  go_wp2
  go_loop [3, 4] (fun m i => ∃ k : Nat, k ≤ s.size ∧ i = .int .i64 k ∧ m = .int .i64 (ofFrom 1 (s.data.toList.take k))) (fun _ i => s.size - (intOf i).toNat)
  case atStart => exact ⟨0, by omega, rfl, rfl⟩
  case round =>
    obtain ⟨k, hk, rfl, rfl⟩ := hrel
    have hrg := ofFrom_range 1 (s.data.toList.take k) (by omega) (by omega)
    obtain ⟨hr0, hr1⟩ := hrg
    by_cases hlt : k < s.size
    · have hb := (s[k]).toNat_lt
      have HX : Hid (s.data.toList[k]? = some s[k]) := by show s.data.toList[k]? = some s[k]; rw [List.getElem?_eq_getElem (by simpa using hlt)]; rfl
      go_wp2
      go_round
      case rel => exact ⟨k + 1, by omega, by go_num, by rw [ofFrom_take HX.out]; rfl⟩
      case measure => simp [intOf]; omega
    · go_wp2
      go_ret
      have htk : s.data.toList.take k = s.data.toList := List.take_of_length_le (by simp; omega)
      exact ⟨ret_int (by rw [htk]), rfl⟩

end Go.Proofs.YtdbpeikijonjmaaDoor.Ref
