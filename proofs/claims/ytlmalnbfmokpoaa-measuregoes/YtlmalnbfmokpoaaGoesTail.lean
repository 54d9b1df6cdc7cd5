/-
  Walks of stairlaw1.MeasureGoes where its list is too long, or has what is no measure in it; and contracts at the arguments that it hands on.
-/
import Derived.Test.YtlmalnbfmokpoaaMeasure
import Derived.WalkKit
import Derived.ProofKit
import Derived.Handy
import Derived.Deep.DeepCutAuto
namespace Go.Proofs.Ytlmalnbfmokpoaa.Goes
open Go.ChangeShapes Go.WideShapes Go.ChangeAt Go.RowKit
open Go.Proofs.Ytlmalnbfmokpoaa.M Go.Proofs.Ytlmalnbfmokpoaa.Measure
set_option linter.unusedVariables false

theorem two_12 (w : World) : Calls Try.prog 8 #[.int .i64 1, .int .i64 2] w fun e w' => e = .returned (.tuple #[.int .i64 7922, .nilIface]) ∧ w' = w := by
  refine (two_ok 1 2 w (by decide) (by decide)).mono ?_
  rintro e w' ⟨he, hw⟩
  exact ⟨he, hw⟩
theorem of_app_ok (s : ByteArray) (c : Int) (w : World) (h : s.size ≤ 23) (c0 : 0 ≤ c) (c1 : c ≤ 255) :
    Calls Try.prog 10 #[.string (s ++ strOfNums [c])] w fun e w' => e = .returned (.tuple #[.int .i64 (stp 257 (ofFrom 1 s.data.toList) c), .nilIface]) ∧ w' = w := by
  refine (of_ok (s ++ strOfNums [c]) w (by rw [app_one_size]; omega)).mono ?_
  rintro e w' ⟨he, hw⟩
  refine ⟨?_, hw⟩
  rw [he, app_one_list, ofFrom_snoc, byte_back c0 c1]
theorem of_app_full (s : ByteArray) (c : Int) (w : World) (h : 23 < s.size) (hm : s.size ≤ 140737488351232) :
    Calls Try.prog 10 #[.string (s ++ strOfNums [c])] w fun e w' => e = .returned (.tuple #[.int .i64 0, .iface 23 (.int .i64 4)]) ∧ w' = w :=
  of_full (s ++ strOfNums [c]) w (by rw [app_one_size]; omega) (by rw [app_one_size]; omega)

set_option maxHeartbeats 400000 in
theorem walk_full (s : ByteArray) (c d : Int) (a : Option Addr) (n cap : Nat) (x y : Int) (w : World) (hs : s.size ≤ 140737488351232) (c0 : 0 ≤ c) (c1 : c ≤ 255) (d0 : 0 ≤ d) (d1 : d ≤ 255) (hn : 30 < n) (hm : n ≤ maxLen) :
    Calls Try.prog 4 #[.slice a n cap, .int .i64 x, .int .i64 y, .string s, .int .u8 c, .int .u8 d] w fun e w' => e = .returned (.bool true) ∧ Below w.heap.size w w' := by
  have hcv := fun (c : Int) (w : World) (b : Nat) (hb : w.heap.size = b) => run_one_byte (P := Try.prog) 33 5 9 Try.underlying33 Try.underlying5 Try.underlying9 c 5 w b hb
  have hone : ∀ c : Int, (strOfNums [c]).size = 1 := fun c => by rw [strOfNums_size]; rfl
  go_enter Try.func4, Try.ntmps4
  go_wp2_with (fail)
  refine (two_12 _).mono ?_
  rintro e w' ⟨rfl, rfl⟩
  go_wp2_with (fail)
  refine (all_full _ _ _ _ hn hm).mono ?_
  rintro e w' ⟨rfl, rfl⟩
  by_cases h23 : s.size ≤ 23
  · by_cases hcd : c = d
    · subst hcd
      go_wp2_with (fail)
      refine (of_app_ok s c _ h23 c0 c1).mono ?_
      rintro e w' ⟨rfl, rfl⟩
      go_wp2_with (fail)
      refine (of_app_ok s c _ h23 c0 c1).mono ?_
      rintro e w' ⟨rfl, rfl⟩
      go_wp2
      go_ret
      exact ⟨rfl, by go_grown⟩
    · have e1 : (c == d) = false := by simpa using hcd
      have e2 : (stp 257 (ofFrom 1 s.data.toList) c == stp 257 (ofFrom 1 s.data.toList) d) = false := by
        simp only [beq_eq_false_iff_ne]; intro h; exact hcd (stp_inj _ _ c d c0 (by omega) d0 (by omega) h)
      go_wp2_with (fail)
      refine (of_app_ok s c _ h23 c0 c1).mono ?_
      rintro e w' ⟨rfl, rfl⟩
      go_wp2_with (fail)
      refine (of_app_ok s d _ h23 d0 d1).mono ?_
      rintro e w' ⟨rfl, rfl⟩
      go_wp2
      go_ret
      exact ⟨rfl, by go_grown⟩
  · have h24 : 23 < s.size := by omega
    go_wp2_with (fail)
    refine (of_app_full s c _ h24 hs).mono ?_
    rintro e w' ⟨rfl, rfl⟩
    go_wp2_with (fail)
    refine (of_app_full s d _ h24 hs).mono ?_
    rintro e w' ⟨rfl, rfl⟩
    go_wp2
    go_ret
    exact ⟨rfl, by go_grown⟩

set_option maxHeartbeats 400000 in
theorem walk_bad (s : ByteArray) (c d : Int) (a : Option Addr) (n cap : Nat) (x y : Int) (w : World) (hs : s.size ≤ 140737488351232) (c0 : 0 ≤ c) (c1 : c ≤ 255) (d0 : 0 ≤ d) (d1 : d ≤ 255) (xs : List Int) (hn : n = xs.length) (hl : n ≤ 30) (hr : Row w a xs) (ho : okAll xs = false) :
    Calls Try.prog 4 #[.slice a n cap, .int .i64 x, .int .i64 y, .string s, .int .u8 c, .int .u8 d] w fun e w' => e = .returned (.bool true) ∧ Below w.heap.size w w' := by
  have hcv := fun (c : Int) (w : World) (b : Nat) (hb : w.heap.size = b) => run_one_byte (P := Try.prog) 33 5 9 Try.underlying33 Try.underlying5 Try.underlying9 c 5 w b hb
  have hone : ∀ c : Int, (strOfNums [c]).size = 1 := fun c => by rw [strOfNums_size]; rfl
  have C := hide (all_bad a xs n cap w hn hl hr ho)
  clear hn hr ho
  go_enter Try.func4, Try.ntmps4
  go_wp2_with (fail)
  refine (two_12 _).mono ?_
  rintro e w' ⟨rfl, rfl⟩
  go_wp2_with (fail)
  refine C.out.mono ?_
  rintro e w' ⟨rfl, rfl⟩
  by_cases h23 : s.size ≤ 23
  · by_cases hcd : c = d
    · subst hcd
      go_wp2_with (fail)
      refine (of_app_ok s c _ h23 c0 c1).mono ?_
      rintro e w' ⟨rfl, rfl⟩
      go_wp2_with (fail)
      refine (of_app_ok s c _ h23 c0 c1).mono ?_
      rintro e w' ⟨rfl, rfl⟩
      go_wp2
      go_ret
      exact ⟨rfl, by go_grown⟩
    · have e1 : (c == d) = false := by simpa using hcd
      have e2 : (stp 257 (ofFrom 1 s.data.toList) c == stp 257 (ofFrom 1 s.data.toList) d) = false := by
        simp only [beq_eq_false_iff_ne]; intro h; exact hcd (stp_inj _ _ c d c0 (by omega) d0 (by omega) h)
      go_wp2_with (fail)
      refine (of_app_ok s c _ h23 c0 c1).mono ?_
      rintro e w' ⟨rfl, rfl⟩
      go_wp2_with (fail)
      refine (of_app_ok s d _ h23 d0 d1).mono ?_
      rintro e w' ⟨rfl, rfl⟩
      go_wp2
      go_ret
      exact ⟨rfl, by go_grown⟩
  · have h24 : 23 < s.size := by omega
    go_wp2_with (fail)
    refine (of_app_full s c _ h24 hs).mono ?_
    rintro e w' ⟨rfl, rfl⟩
    go_wp2_with (fail)
    refine (of_app_full s d _ h24 hs).mono ?_
    rintro e w' ⟨rfl, rfl⟩
    go_wp2
    go_ret
    exact ⟨rfl, by go_grown⟩

theorem info_int : (Try.prog.info? 3).map (fun i => (i.zero, i.size, i.bytes)) = some (some (.int .i64 0), 1, 8) := by kernel_rfl
theorem snoc_ok (ad : Option Addr) (xs : List Int) (x : Int) (n cp : Nat) (W : World) (hn : Hid (n = xs.length)) (ho : Hid (okAll xs = true)) (h31 : n < 30) (hrow : Row W ad (xs ++ [x])) (hx : isM x = true) :
    Calls Try.prog 9 #[.slice ad (n + 1) cp] W fun e w' => e = .returned (.tuple #[.int .i64 (stp 7919 (allFrom 0 xs) x), .nilIface]) ∧ w' = W := by
  rw [← allFrom_snoc]
  exact all_ok ad (xs ++ [x]) (n + 1) cp W (by simp [hn.out]) (by omega) hrow (by rw [okAll_snoc, ho.out, hx]; rfl)
theorem snoc_bad (ad : Option Addr) (xs : List Int) (x : Int) (n cp : Nat) (W : World) (hn : Hid (n = xs.length)) (ho : Hid (okAll xs = true)) (h31 : n < 30) (hrow : Row W ad (xs ++ [x])) (hx : isM x = false) :
    Calls Try.prog 9 #[.slice ad (n + 1) cp] W fun e w' => e = .returned (.tuple #[.int .i64 0, .iface 23 (.int .i64 1)]) ∧ w' = W :=
  all_bad ad (xs ++ [x]) (n + 1) cp W (by simp [hn.out]) (by omega) hrow (by rw [okAll_snoc, ho.out, hx]; rfl)
theorem own_snoc {w : World} {base : Nat} {e : TypeId} {v : Value} {xs : List Int} {x : Int} {n : Nat} (hn : Hid (n = xs.length)) (h : Own w base e v ([] ++ xs ++ [x])) : ∃ a cap, v = .slice a (n + 1) cap ∧ Row w a (xs ++ [x]) := by
  obtain ⟨a, cap, hv, _, hr⟩ := h.row
  refine ⟨a, cap, ?_, by simpa using hr⟩
  rw [hv, hn.out]
  simp
end Go.Proofs.Ytlmalnbfmokpoaa.Goes
