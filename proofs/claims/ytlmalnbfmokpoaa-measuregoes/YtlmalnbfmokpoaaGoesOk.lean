/-
  The walk of stairlaw1.MeasureGoes where its list is a list of measures that is not too long.
-/
import Derived.Test.YtlmalnbfmokpoaaGoesTail
namespace Go.Proofs.Ytlmalnbfmokpoaa.Goes
open Go.ChangeShapes Go.WideShapes Go.ChangeAt Go.RowKit
open Go.Proofs.Ytlmalnbfmokpoaa.M Go.Proofs.Ytlmalnbfmokpoaa.Measure
set_option linter.unusedVariables false

set_option maxRecDepth 20000 in
set_option maxHeartbeats 2000000 in
theorem walk_ok (s : ByteArray) (c d : Int) (a : Option Addr) (n cap : Nat) (x y : Int) (w : World) (hs : s.size ≤ 140737488351232) (c0 : 0 ≤ c) (c1 : c ≤ 255) (d0 : 0 ≤ d) (d1 : d ≤ 255) (xs : List Int) (hn : n = xs.length) (hl : n ≤ 30) (hr : Row w a xs) (hnc : a = none → cap = 0) (ho : okAll xs = true) :
    Calls Try.prog 4 #[.slice a n cap, .int .i64 x, .int .i64 y, .string s, .int .u8 c, .int .u8 d] w fun e w' => e = .returned (.bool true) ∧ Below w.heap.size w w' := by
  have hcv := fun (c : Int) (w : World) (b : Nat) (hb : w.heap.size = b) => run_one_byte (P := Try.prog) 33 5 9 Try.underlying33 Try.underlying5 Try.underlying9 c 5 w b hb
  have hone : ∀ c : Int, (strOfNums [c]).size = 1 := fun c => by rw [strOfNums_size]; rfl
  have C := hide (all_ok a xs n cap w hn hl hr ho)
  have HN := hide hn
  have HO := hide ho
  have HR := hide hr
  have HC := hide hnc
  have hq := allFrom_range 0 xs (by omega) (by omega)
  obtain ⟨q0, q1⟩ := hq
  clear hn hr ho hnc
  go_enter Try.func4, Try.ntmps4
  go_wp2_with (fail)
  refine (two_12 _).mono ?_
  rintro e w' ⟨rfl, rfl⟩
  go_wp2_with (fail)
  refine C.out.mono ?_
  rintro e w' ⟨rfl, rfl⟩
  clear C
  go_upto_if 43 with (fail)
  go_cut [] (fun w1 => Below w'.heap.size w' w1)
  case rest =>
    have hz := hcut.size
    by_cases h23 : s.size ≤ 23
    · by_cases hcd : c = d
      · subst hcd
        go_wp2_with (fail)
        refine (of_app_ok s c _ h23 c0 c1).mono ?_
        rintro e w' ⟨rfl, rfl⟩
        go_wp2_with (fail)
        refine (of_app_ok s c _ h23 c0 c1).mono ?_
        rintro e w' ⟨rfl, rfl⟩
        go_wp2
        go_ret
        exact ⟨rfl, by go_grown⟩
      · have e1 : (c == d) = false := by simpa using hcd
        have e2 : (stp 257 (ofFrom 1 s.data.toList) c == stp 257 (ofFrom 1 s.data.toList) d) = false := by
          simp only [beq_eq_false_iff_ne]; intro h; exact hcd (stp_inj _ _ c d c0 (by omega) d0 (by omega) h)
        go_wp2_with (fail)
        refine (of_app_ok s c _ h23 c0 c1).mono ?_
        rintro e w' ⟨rfl, rfl⟩
        go_wp2_with (fail)
        refine (of_app_ok s d _ h23 d0 d1).mono ?_
        rintro e w' ⟨rfl, rfl⟩
        go_wp2
        go_ret
        exact ⟨rfl, by go_grown⟩
    · have h24 : 23 < s.size := by omega
      go_wp2_with (fail)
      refine (of_app_full s c _ h24 hs).mono ?_
      rintro e w' ⟨rfl, rfl⟩
      go_wp2_with (fail)
      refine (of_app_full s d _ h24 hs).mono ?_
      rintro e w' ⟨rfl, rfl⟩
      go_wp2
      go_ret
      exact ⟨rfl, by go_grown⟩
  case first =>
    have hmq : isM (allFrom 0 xs) = true := isM_iff.2 ⟨q0, q1⟩
    clear hcv hone
    cases hx : isM x with
    | true =>
      cases hy : isM y with
      | true =>
        have hxr := isM_iff.1 hx
        have hyr := isM_iff.1 hy
        by_cases hxy : x = y
        · subst hxy
          go_wp2_with (fail)
          refine (two_ok _ _ _ hmq hx).mono ?_
          rintro e w' ⟨rfl, rfl⟩
          go_wp2_with (fail)
          refine (two_ok _ _ _ hmq hx).mono ?_
          rintro e w' ⟨rfl, rfl⟩
          go_wp2_with (first
            | (at_builtin; refine wpList_app rfl _ _ 26 rfl w'.heap.size 3 info_int Try.underlying26 v1 ([] ++ xs) rfl (OW1.out.alloc _) (some ⟨w1.heap.size, 0, none⟩) 1 1 [x] rfl rfl (fun hno => (by cases hno)) (Row.one _ _ _ (by simp)) (by have := HN.out; simp; omega) (by simp; omega) ?_; intro v2 w2 hown2 hg2; have bel2 : Below w'.heap.size w' w2 := (bel1.alloc siz1 _).grown hg2 (by simp; omega) (fun k hk => OW1.out.block k hk); obtain ⟨a2, cap2, hv2, hrow2⟩ := own_snoc HN hown2; have HRW2 := hide hrow2; rw [hv2]; clear hv2 hown2 hg2 hrow2)
            | (at_builtin; refine wpList_app rfl _ _ 26 rfl w'.heap.size 3 info_int Try.underlying26 (.slice none 0 0) [] rfl (Own.nil _ _ _) a n cap xs rfl HN.out HC.out HR.out (by simp; have := HN.out; omega) (Nat.le_refl _) ?_; intro v1 w1 hown1 hg1; have OW1 := hide hown1; have bel1 : Below w'.heap.size w' w1 := (Below.refl _ _).grown hg1 (Nat.le_refl _) (fun k hk => (by cases hk)); have siz1 := bel1.size; clear hown1 hg1))
          by_cases h30 : n < 30
          · refine (snoc_ok a2 xs x n cap2 _ HN HO h30 HRW2.out hx).mono ?_
            rintro e w' ⟨rfl, rfl⟩
            go_wp2
            go_meet
            exact bel2
          · refine (all_full _ _ _ _ (by omega) (by unfold maxLen; omega)).mono ?_
            rintro e w' ⟨rfl, rfl⟩
            go_wp2
            go_meet
            exact bel2
        · have e1 : (x == y) = false := by simpa using hxy
          have e2 : (stp 7919 (allFrom 0 xs) x == stp 7919 (allFrom 0 xs) y) = false := by
            simp only [beq_eq_false_iff_ne]; intro h; exact hxy (stp_inj _ _ x y hxr.1 hxr.2 hyr.1 hyr.2 h)
          clear hxr hyr
          go_wp2_with (fail)
          refine (two_ok _ _ _ hmq hx).mono ?_
          rintro e w' ⟨rfl, rfl⟩
          go_wp2_with (fail)
          refine (two_ok _ _ _ hmq hy).mono ?_
          rintro e w' ⟨rfl, rfl⟩
          go_wp2_with (first
            | (at_builtin; refine wpList_app rfl _ _ 26 rfl w'.heap.size 3 info_int Try.underlying26 v1 ([] ++ xs) rfl (OW1.out.alloc _) (some ⟨w1.heap.size, 0, none⟩) 1 1 [x] rfl rfl (fun hno => (by cases hno)) (Row.one _ _ _ (by simp)) (by have := HN.out; simp; omega) (by simp; omega) ?_; intro v2 w2 hown2 hg2; have bel2 : Below w'.heap.size w' w2 := (bel1.alloc siz1 _).grown hg2 (by simp; omega) (fun k hk => OW1.out.block k hk); obtain ⟨a2, cap2, hv2, hrow2⟩ := own_snoc HN hown2; have HRW2 := hide hrow2; rw [hv2]; clear hv2 hown2 hg2 hrow2)
            | (at_builtin; refine wpList_app rfl _ _ 26 rfl w'.heap.size 3 info_int Try.underlying26 (.slice none 0 0) [] rfl (Own.nil _ _ _) a n cap xs rfl HN.out HC.out HR.out (by simp; have := HN.out; omega) (Nat.le_refl _) ?_; intro v1 w1 hown1 hg1; have OW1 := hide hown1; have bel1 : Below w'.heap.size w' w1 := (Below.refl _ _).grown hg1 (Nat.le_refl _) (fun k hk => (by cases hk)); have siz1 := bel1.size; clear hown1 hg1))
          by_cases h30 : n < 30
          · refine (snoc_ok a2 xs x n cap2 _ HN HO h30 HRW2.out hx).mono ?_
            rintro e w' ⟨rfl, rfl⟩
            go_wp2
            go_meet
            exact bel2
          · refine (all_full _ _ _ _ (by omega) (by unfold maxLen; omega)).mono ?_
            rintro e w' ⟨rfl, rfl⟩
            go_wp2
            go_meet
            exact bel2
      | false =>
        go_wp2_with (fail)
        refine (two_ok _ _ _ hmq hx).mono ?_
        rintro e w' ⟨rfl, rfl⟩
        go_wp2_with (fail)
        refine (two_bad _ _ _ (Or.inr hy)).mono ?_
        rintro e w' ⟨rfl, rfl⟩
        go_wp2_with (first
          | (at_builtin; refine wpList_app rfl _ _ 26 rfl w'.heap.size 3 info_int Try.underlying26 v1 ([] ++ xs) rfl (OW1.out.alloc _) (some ⟨w1.heap.size, 0, none⟩) 1 1 [x] rfl rfl (fun hno => (by cases hno)) (Row.one _ _ _ (by simp)) (by have := HN.out; simp; omega) (by simp; omega) ?_; intro v2 w2 hown2 hg2; have bel2 : Below w'.heap.size w' w2 := (bel1.alloc siz1 _).grown hg2 (by simp; omega) (fun k hk => OW1.out.block k hk); obtain ⟨a2, cap2, hv2, hrow2⟩ := own_snoc HN hown2; have HRW2 := hide hrow2; rw [hv2]; clear hv2 hown2 hg2 hrow2)
          | (at_builtin; refine wpList_app rfl _ _ 26 rfl w'.heap.size 3 info_int Try.underlying26 (.slice none 0 0) [] rfl (Own.nil _ _ _) a n cap xs rfl HN.out HC.out HR.out (by simp; have := HN.out; omega) (Nat.le_refl _) ?_; intro v1 w1 hown1 hg1; have OW1 := hide hown1; have bel1 : Below w'.heap.size w' w1 := (Below.refl _ _).grown hg1 (Nat.le_refl _) (fun k hk => (by cases hk)); have siz1 := bel1.size; clear hown1 hg1))
        by_cases h30 : n < 30
        · refine (snoc_ok a2 xs x n cap2 _ HN HO h30 HRW2.out hx).mono ?_
          rintro e w' ⟨rfl, rfl⟩
          go_wp2
          go_meet
          exact bel2
        · refine (all_full _ _ _ _ (by omega) (by unfold maxLen; omega)).mono ?_
          rintro e w' ⟨rfl, rfl⟩
          go_wp2
          go_meet
          exact bel2
    | false =>
      cases hy : isM y with
      | true =>
        go_wp2_with (fail)
        refine (two_bad _ _ _ (Or.inr hx)).mono ?_
        rintro e w' ⟨rfl, rfl⟩
        go_wp2_with (fail)
        refine (two_ok _ _ _ hmq hy).mono ?_
        rintro e w' ⟨rfl, rfl⟩
        go_wp2_with (first
          | (at_builtin; refine wpList_app rfl _ _ 26 rfl w'.heap.size 3 info_int Try.underlying26 v1 ([] ++ xs) rfl (OW1.out.alloc _) (some ⟨w1.heap.size, 0, none⟩) 1 1 [x] rfl rfl (fun hno => (by cases hno)) (Row.one _ _ _ (by simp)) (by have := HN.out; simp; omega) (by simp; omega) ?_; intro v2 w2 hown2 hg2; have bel2 : Below w'.heap.size w' w2 := (bel1.alloc siz1 _).grown hg2 (by simp; omega) (fun k hk => OW1.out.block k hk); obtain ⟨a2, cap2, hv2, hrow2⟩ := own_snoc HN hown2; have HRW2 := hide hrow2; rw [hv2]; clear hv2 hown2 hg2 hrow2)
          | (at_builtin; refine wpList_app rfl _ _ 26 rfl w'.heap.size 3 info_int Try.underlying26 (.slice none 0 0) [] rfl (Own.nil _ _ _) a n cap xs rfl HN.out HC.out HR.out (by simp; have := HN.out; omega) (Nat.le_refl _) ?_; intro v1 w1 hown1 hg1; have OW1 := hide hown1; have bel1 : Below w'.heap.size w' w1 := (Below.refl _ _).grown hg1 (Nat.le_refl _) (fun k hk => (by cases hk)); have siz1 := bel1.size; clear hown1 hg1))
        by_cases h30 : n < 30
        · refine (snoc_bad a2 xs x n cap2 _ HN HO h30 HRW2.out hx).mono ?_
          rintro e w' ⟨rfl, rfl⟩
          go_wp2
          go_meet
          exact bel2
        · refine (all_full _ _ _ _ (by omega) (by unfold maxLen; omega)).mono ?_
          rintro e w' ⟨rfl, rfl⟩
          go_wp2
          go_meet
          exact bel2
      | false =>
        go_wp2_with (fail)
        refine (two_bad _ _ _ (Or.inr hx)).mono ?_
        rintro e w' ⟨rfl, rfl⟩
        go_wp2_with (fail)
        refine (two_bad _ _ _ (Or.inr hy)).mono ?_
        rintro e w' ⟨rfl, rfl⟩
        go_wp2_with (first
          | (at_builtin; refine wpList_app rfl _ _ 26 rfl w'.heap.size 3 info_int Try.underlying26 v1 ([] ++ xs) rfl (OW1.out.alloc _) (some ⟨w1.heap.size, 0, none⟩) 1 1 [x] rfl rfl (fun hno => (by cases hno)) (Row.one _ _ _ (by simp)) (by have := HN.out; simp; omega) (by simp; omega) ?_; intro v2 w2 hown2 hg2; have bel2 : Below w'.heap.size w' w2 := (bel1.alloc siz1 _).grown hg2 (by simp; omega) (fun k hk => OW1.out.block k hk); obtain ⟨a2, cap2, hv2, hrow2⟩ := own_snoc HN hown2; have HRW2 := hide hrow2; rw [hv2]; clear hv2 hown2 hg2 hrow2)
          | (at_builtin; refine wpList_app rfl _ _ 26 rfl w'.heap.size 3 info_int Try.underlying26 (.slice none 0 0) [] rfl (Own.nil _ _ _) a n cap xs rfl HN.out HC.out HR.out (by simp; have := HN.out; omega) (Nat.le_refl _) ?_; intro v1 w1 hown1 hg1; have OW1 := hide hown1; have bel1 : Below w'.heap.size w' w1 := (Below.refl _ _).grown hg1 (Nat.le_refl _) (fun k hk => (by cases hk)); have siz1 := bel1.size; clear hown1 hg1))
        by_cases h30 : n < 30
        · refine (snoc_bad a2 xs x n cap2 _ HN HO h30 HRW2.out hx).mono ?_
          rintro e w' ⟨rfl, rfl⟩
          go_wp2
          go_meet
          exact bel2
        · refine (all_full _ _ _ _ (by omega) (by unfold maxLen; omega)).mono ?_
          rintro e w' ⟨rfl, rfl⟩
          go_wp2
          go_meet
          exact bel2
end Go.Proofs.Ytlmalnbfmokpoaa.Goes
