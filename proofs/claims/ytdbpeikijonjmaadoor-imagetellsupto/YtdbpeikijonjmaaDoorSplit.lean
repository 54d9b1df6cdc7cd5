/-
  Contracts of strings.SplitN (and of what it calls) at a blank and at most four parts, for every text: the parts, in a new block; memory that was there stays as it was.
-/
import Derived.Test.YtdbpeikijonjmaaDoorImg2
import Derived.Shelf.Strings.Search3
import Derived.Laws.Strings3
import Derived.Deep.OwnRows
import Derived.Deep.LoopGhost
namespace Go.Proofs.YtdbpeikijonjmaaDoor.Split
open Go.ChangeShapes Go.WideShapes Go.ChangeAt Go.RowKit
open Go.Proofs.YtdbpeikijonjmaaDoor.M
set_option linter.unusedVariables false

theorem index_any (s : ByteArray) (w : World) : Calls Tryd.prog 44 #[.string s, .string { data := #[32] }] w fun e w' => e = .returned (.int .i64 (Lib.indexByte s.data.toList 32)) ∧ w' = w :=
  Any.strings_Index_one Tryd.lays143 s 32 w
theorem index_is (s : ByteArray) : Lib.indexB s spcB = Lib.indexByte s.data.toList 32 := Lib.index_one _ _

set_option maxHeartbeats 4000000 in
theorem gen_any (s : ByteArray) (N : Nat) (w : World) (hs : s.size ≤ 140737488351232) (hN : N = min 4 (s.size + 1)) :
    Calls Tryd.prog 33 #[.string s, .string { data := #[32] }, .int .i64 0, .int .i64 4] w fun e w' =>
      e = .returned (.slice (some ⟨w.heap.size, 0, none⟩) (partsB s).length N) ∧ w' = w.alloc (.cells (Lib.cellsOf (partsB s) N) 9) := by
  have hP : partsB s = Lib.splitB spcB 0 (N - 1) s := by rw [hN]; rfl
  have eN : min (4 : Int) ((s.size : Int) + 1) = (N : Int) := by omega
  have hN1 : 1 ≤ N := by omega
  have hN4 : N ≤ 4 := by omega
  have HP := hide hP
  clear hP hN
  have hmk := run_make_row' (P := Tryd.prog) 50 9 (.string ByteArray.empty) 16 Tryd.underlying50 (by kernel_rfl) rfl .i64 .i64 N (by omega) (by omega)
  go_enter Tryd.func33, Tryd.ntmps33
  go_wp2_with (fail)
  clear hmk
  go_loopg [0, 10] (N - 1) (fun g s0 s10 wr => ∃ (done : List ByteArray) (rest : ByteArray), s0 = .string rest ∧ s10 = .int .i64 done.length ∧ done.length ≤ N - 1 ∧ g = N - 1 - done.length ∧ Hid (rest.size ≤ s.size) ∧
    wr = w.alloc (.cells (Lib.cellsOf done N) 9) ∧ Hid (done ++ Lib.splitB spcB 0 (N - 1 - done.length) rest = partsB s))
  case atStart => exact ⟨[], s, rfl, rfl, Nat.zero_le _, rfl, Nat.le_refl _, by rw [Lib.cellsOf_nil], by rw [HP.out]; rfl⟩
  case round =>
    obtain ⟨done, rest, rfl, rfl, hd, rfl, hrs, rfl, HS⟩ := hrel
    have hnext : (Lib.cellsOf done N)[done.length]? = some (.string ByteArray.empty) := Lib.cellsOf_next (by omega)
    have HF : Hid (Lib.splitB spcB 0 (N - 1 - done.length) rest = [rest] → (partsB s).length = done.length + 1 ∧ (Lib.cellsOf done N).setIfInBounds done.length (.string rest) = Lib.cellsOf (partsB s) N) := fun h => by
      have e := HS.out
      rw [h] at e
      rw [← e]
      exact ⟨by simp, Lib.cellsOf_set (by omega) rest⟩
    have hrs' := hrs.out
    clear hrs
    by_cases hlt : done.length < N - 1
    · have hltz : ((done.length : Nat) : Int) < (N : Int) - 1 := by omega
      rcases index_parts rest.data.toList 32 with ⟨hix, _⟩ | ⟨a, r, hr, _, hix⟩
      · have HM := hide (Lib.splitB_miss spcB 0 (N - 1 - done.length) rest (by rw [index_is]; exact hix))
        go_wp2_with (go_at_call 44; refine (index_any rest _).mono ?_; rintro e w' ⟨rfl, hw⟩; rw [hw, hix])
        go_ret
        obtain ⟨f1, f2⟩ := HF.out HM.out
        rw [f1, ← f2]
        exact ⟨by first | rfl | (congr 2 <;> omega), rfl⟩
      · have hroom : a.length + 1 ≤ rest.size := by
          have := len_size rest
          rw [hr] at this
          simp at this
          omega
        have HT := hide (Lib.splitB_hit spcB 0 (N - 1 - (done.length + 1)) rest a.length (by rw [index_is]; exact hix))
        clear hr
        have c0 : ¬ ((a.length : Int) < 0) := by omega
        have c1 : (0 : Int) ≤ (a.length : Int) + 0 := by omega
        have c2 : ((a.length : Int) + 0) ≤ (rest.size : Int) := by omega
        have c3 : (0 : Int) ≤ (a.length : Int) + 1 := by omega
        have c4 : ((a.length : Int) + 1) ≤ (rest.size : Int) := by omega
        go_wp2_with (go_at_call 44; refine (index_any rest _).mono ?_; rintro e w' ⟨rfl, hw⟩; rw [hw, hix])
        go_roundg (N - 1 - (done.length + 1))
        case measure => omega
        case rel =>
          refine ⟨done ++ [rest.extract 0 a.length], rest.extract (a.length + 1) rest.size, rfl, by simp, by simp; omega, by simp, (show (rest.extract (a.length + 1) rest.size).size ≤ s.size by rw [ByteArray.size_extract]; omega), by rw [← Lib.cellsOf_set (by omega)], ?_⟩
          have e1 := HS.out
          rw [show N - 1 - done.length = (N - 1 - (done.length + 1)) + 1 by omega, HT.out] at e1
          rw [← e1]
          simp only [List.length_append, List.length_cons, List.length_nil, List.append_assoc, List.singleton_append]
          rfl
    · have hltz : ¬ (((done.length : Nat) : Int) < (N : Int) - 1) := by omega
      go_wp2
      go_ret
      obtain ⟨f1, f2⟩ := HF.out (by rw [show N - 1 - done.length = 0 by omega]; rfl)
      rw [f1, ← f2]
      exact ⟨by first | rfl | (congr 2 <;> omega), rfl⟩

theorem split_any (s : ByteArray) (w : World) (hs : s.size ≤ 140737488351232) :
    Calls Tryd.prog 25 #[.string s, .string { data := #[32] }, .int .i64 4] w fun e w' =>
      e = .returned (.slice (some ⟨w.heap.size, 0, none⟩) (partsB s).length (min 4 (s.size + 1))) ∧ w' = w.alloc (.cells (Lib.cellsOf (partsB s) (min 4 (s.size + 1))) 9) := by
  have c := gen_any s _ w hs rfl
  generalize min 4 (s.size + 1) = N at c ⊢
  go_enter Tryd.func25, Tryd.ntmps25
  go_wp2_with (go_at_call 33; refine c.mono ?_; rintro e w' ⟨rfl, hw⟩; rw [hw])
  go_ret
  exact ⟨rfl, rfl⟩
end Go.Proofs.YtdbpeikijonjmaaDoor.Split
