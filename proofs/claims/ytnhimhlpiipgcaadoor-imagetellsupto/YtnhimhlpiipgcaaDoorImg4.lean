/-
  Contracts of package image's number: a text as a Version, or that it is none; memory that was there stays as it was.
-/
import Derived.Test.YtnhimhlpiipgcaaDoorImg3
import Derived.Lib.AtoiBound
namespace Go.Proofs.YtnhimhlpiipgcaaDoor.M
/-- A text as a Version: the number (0 where it is none), and the fault. -/
def numV (s : ByteArray) : Int := (((numO s.data.toList).getD 0 : Nat) : Int)
def numE (s : ByteArray) : Int := if (numO s.data.toList).isSome then 0 else 2
theorem num_some {s : ByteArray} {n : Nat} (h : numO s.data.toList = some n) : numV s = n ∧ numE s = 0 := by unfold numV numE; rw [h]; exact ⟨rfl, rfl⟩
theorem num_none {s : ByteArray} (h : numO s.data.toList = none) : numV s = 0 ∧ numE s = 2 := by unfold numV numE; rw [h]; exact ⟨rfl, rfl⟩
theorem numO_long {l : List UInt8} (h : 4 < l.length) : numO l = none := by unfold numO; rw [if_pos (Or.inr (Or.inl h))]
theorem numO_noatoi {l : List UInt8} (h : Lib.atoi l = none) : numO l = none := by
  cases e : numO l with
  | none => rfl
  | some n => rw [numO_atoi e] at h; cases h
theorem numO_neg {l : List UInt8} {n : Int} (h : Lib.atoi l = some n) (hn : n < 0) : numO l = none := by
  cases e : numO l with
  | none => rfl
  | some m =>
    rw [numO_atoi e] at h
    have := Option.some.inj h
    omega
theorem numO_other {l : List UInt8} {n : Int} (h : Lib.atoi l = some n) (hn : Lib.itoa n ≠ l) : numO l = none := by
  cases e : numO l with
  | none => rfl
  | some m =>
    rw [numO_atoi e] at h
    have := Option.some.inj h
    subst this
    exact absurd (numO_itoa e) hn
theorem numO_same {l : List UInt8} {n : Int} (hn : 0 ≤ n) (hl : l.length ≤ 4) (h : Lib.itoa n = l) : numO l = some n.toNat := by
  obtain ⟨m, rfl⟩ : ∃ m : Nat, n = m := ⟨n.toNat, by omega⟩
  rw [itoa_nat] at h
  subst h
  exact numO_dec hl
end Go.Proofs.YtnhimhlpiipgcaaDoor.M
namespace Go.Proofs.YtnhimhlpiipgcaaDoor.Image
open Go.ChangeShapes Go.WideShapes Go.ChangeAt Go.RowKit
open Go.Proofs.YtnhimhlpiipgcaaDoor.M
set_option linter.unusedVariables false

set_option maxHeartbeats 4000000 in
theorem number_any (s : ByteArray) (w : World) (hs : s.size ≤ 140737488351232) (hh : Has w) :
    Calls Tryd.prog 35 #[.string s] w fun e w' => e = .returned (.tuple #[.int .i64 (numV s), errV 59 (numE s)]) ∧ Below w.heap.size w w' := by
  have HH := hide hh
  clear hh
  by_cases h4 : 4 < s.size
  · obtain ⟨n1, n2⟩ := num_none (numO_long (l := s.data.toList) (by rw [len_size]; exact h4))
    have N1 := hide n1
    have N2 := hide n2
    clear n1 n2
    have h4z : (4 : Int) < (s.size : Int) := by omega
    go_enter Tryd.func35, Tryd.ntmps35
    go_wp2
    go_ret2
    exact ⟨by rw [N1.out, N2.out]; rfl, Below.refl _ _⟩
  · have h4z : ¬ (4 : Int) < (s.size : Int) := by omega
    cases ha : Lib.atoi s.data.toList with
    | none =>
      obtain ⟨n1, n2⟩ := num_none (numO_noatoi ha)
      have N1 := hide n1
      have N2 := hide n2
      clear n1 n2
      go_enter Tryd.func35, Tryd.ntmps35
      go_wp2_with (fail)
      refine (atoi_none s _ (by omega) ha HH.out).mono ?_
      rintro e w1 ⟨⟨T, a, rfl⟩, hb⟩
      go_wp2
      go_ret2
      exact ⟨by rw [N1.out, N2.out]; rfl, hb⟩
    | some n =>
      have HA := hide ha
      obtain ⟨b1, b2⟩ := Lib.atoi_bound ha (by rw [len_size]; omega)
      have CA := hide (atoi_some s n w (by omega) ha)
      clear ha
      by_cases hn : n < 0
      · obtain ⟨n1, n2⟩ := num_none (numO_neg HA.out hn)
        have N1 := hide n1
        have N2 := hide n2
        clear n1 n2
        go_enter Tryd.func35, Tryd.ntmps35
        go_wp2_with (fail)
        refine CA.out.mono ?_
        rintro e w1 ⟨rfl, hb⟩
        go_wp2
        go_ret2
        exact ⟨by rw [N1.out, N2.out]; rfl, hb⟩
      · go_enter Tryd.func35, Tryd.ntmps35
        go_wp2_with (fail)
        refine CA.out.mono ?_
        rintro e w1 ⟨rfl, hb⟩
        have HB1 := hide hb
        have HH1 := hide (HH.out.below hb)
        clear hb
        go_wp2_with (fail)
        refine (itoa_any n _ (by omega) (by omega) HH1.out).mono ?_
        rintro e w2 ⟨rfl, hb⟩
        have HB2 := hide (below_on HB1.out hb)
        clear hb
        by_cases hq : Lib.itoa n = s.data.toList
        · obtain ⟨n1, n2⟩ := num_some (numO_same (by omega) (by rw [len_size]; omega) hq)
          have N1 := hide (show numV s = n by rw [n1]; omega)
          have N2 := hide n2
          clear n1 n2
          have hs2 : ({ data := (Lib.itoa n).toArray } : ByteArray) = s := byte_ext hq
          have hs3 : (Lib.itoa n == s.toList) = true := by rw [Lib.toList_data, hq]; simp
          have HS := hide hs2
          clear hs2 hq
          go_wp2
          all_goals first
            | (exfalso; omega)
            | (go_ret2; exact ⟨by rw [N1.out, N2.out]; rfl, HB2.out⟩)
        · obtain ⟨n1, n2⟩ := num_none (numO_other HA.out hq)
          have N1 := hide n1
          have N2 := hide n2
          clear n1 n2
          have hs3 : (Lib.itoa n == s.toList) = false := by rw [Lib.toList_data]; exact beq_eq_false_iff_ne.2 hq
          clear hq
          go_wp2
          all_goals first
            | (exfalso; omega)
            | (go_ret2; exact ⟨by rw [N1.out, N2.out]; rfl, HB2.out⟩)
end Go.Proofs.YtnhimhlpiipgcaaDoor.Image
