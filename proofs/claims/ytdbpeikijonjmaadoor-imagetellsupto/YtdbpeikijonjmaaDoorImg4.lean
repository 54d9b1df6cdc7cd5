/-
  Contracts of package image's Number: a text as a number of at most so many digits, or that it is none; memory that was there stays as it was.
-/
import Derived.Test.YtdbpeikijonjmaaDoorImg3
import Derived.Lib.AtoiBound
namespace Go.Proofs.YtdbpeikijonjmaaDoor.M
/-- A number of at most k digits, without a needless nought. -/
def numG (k : Nat) (l : List UInt8) : Option Nat := if l = [] ∨ k < l.length ∨ (l.head? = some 48 ∧ 1 < l.length) then none else Lib.decFrom 0 l
theorem numG_four (l : List UInt8) : numG 4 l = numO l := rfl
/-- A text as a number: the number (0 where it is none), and the fault. -/
def nuV (k : Nat) (s : ByteArray) : Int := (((numG k s.data.toList).getD 0 : Nat) : Int)
def nuE (k : Nat) (s : ByteArray) : Int := if (numG k s.data.toList).isSome then 0 else 2
/-- A text as a Version. -/
def numV (s : ByteArray) : Int := (((numO s.data.toList).getD 0 : Nat) : Int)
def numE (s : ByteArray) : Int := if (numO s.data.toList).isSome then 0 else 2
theorem num_some {s : ByteArray} {n : Nat} (h : numO s.data.toList = some n) : numV s = n ∧ numE s = 0 := by unfold numV numE; rw [h]; exact ⟨rfl, rfl⟩
theorem num_none {s : ByteArray} (h : numO s.data.toList = none) : numV s = 0 ∧ numE s = 2 := by unfold numV numE; rw [h]; exact ⟨rfl, rfl⟩
theorem numO_long {l : List UInt8} (h : 4 < l.length) : numO l = none := by unfold numO; rw [if_pos (Or.inr (Or.inl h))]
section
variable {k : Nat} {s : ByteArray} {l : List UInt8} {n : Nat}
theorem nu_some (h : numG k s.data.toList = some n) : nuV k s = n ∧ nuE k s = 0 := by unfold nuV nuE; rw [h]; exact ⟨rfl, rfl⟩
theorem nu_none (h : numG k s.data.toList = none) : nuV k s = 0 ∧ nuE k s = 2 := by unfold nuV nuE; rw [h]; exact ⟨rfl, rfl⟩
theorem numG_long (h : k < l.length) : numG k l = none := by unfold numG; rw [if_pos (Or.inr (Or.inl h))]
theorem numG_some (h : numG k l = some n) : l ≠ [] ∧ l.length ≤ k ∧ (l.head? = some 48 → l.length = 1) ∧ Lib.decFrom 0 l = some n := by
  unfold numG at h
  split at h
  · cases h
  · rename_i hc
    have hne : l ≠ [] := fun e => hc (Or.inl e)
    refine ⟨hne, by omega, fun h48 => ?_, h⟩
    have : ¬ 1 < l.length := fun h1 => hc (Or.inr (Or.inr ⟨h48, h1⟩))
    cases l with
    | nil => exact absurd rfl hne
    | cons a r => simp at this ⊢; exact this
theorem numG_itoa (h : numG k l = some n) : Lib.itoa n = l := by
  obtain ⟨h1, h2, h3, h4⟩ := numG_some h
  rw [itoa_nat]
  exact dec_of l.length l n (Nat.le_refl _) h1 h3 h4
theorem numG_atoi (h : numG k l = some n) : Lib.atoi l = some (n : Int) := by
  obtain ⟨h1, h2, h3, h4⟩ := numG_some h
  cases l with
  | nil => exact absurd rfl h1
  | cons b r =>
    have hb : ∃ d, Lib.digitVal b = some d := by
      simp only [Lib.decFrom] at h4
      cases hd : Lib.digitVal b with
      | none => rw [hd] at h4; cases h4
      | some d => exact ⟨d, rfl⟩
    obtain ⟨d, hd⟩ := hb
    obtain ⟨e1, e2, _⟩ := Lib.digitVal_eq hd
    have n45 : ¬ (b == 45) = true := by
      intro e
      have e := beq_iff_eq.1 e
      subst e
      revert e1
      decide
    have n43 : ¬ (b == 43) = true := by
      intro e
      have e := beq_iff_eq.1 e
      subst e
      revert e1
      decide
    show (if (b == 45) = true then _ else _) = _
    rw [if_neg n45, if_neg n43]
    unfold Lib.decNat
    rw [if_neg (by simp), h4]
    rfl
theorem numG_dec (h : (Lib.decDigits n).length ≤ k) : numG k (Lib.decDigits n) = some n := by
  unfold numG
  rw [if_neg, decFrom_dec n n (Nat.le_refl _)]
  intro hh
  rcases hh with hh | hh | ⟨h1, h2⟩
  · exact dec_ne n hh
  · omega
  · have := dec_head n n (Nat.le_refl _) h1
    subst this
    rw [dec_small (by omega)] at h2
    simp at h2
theorem numG_noatoi (h : Lib.atoi l = none) : numG k l = none := by
  cases e : numG k l with
  | none => rfl
  | some n => rw [numG_atoi e] at h; cases h
theorem numG_neg {n : Int} (h : Lib.atoi l = some n) (hn : n < 0) : numG k l = none := by
  cases e : numG k l with
  | none => rfl
  | some m =>
    rw [numG_atoi e] at h
    have := Option.some.inj h
    omega
theorem numG_other {n : Int} (h : Lib.atoi l = some n) (hn : Lib.itoa n ≠ l) : numG k l = none := by
  cases e : numG k l with
  | none => rfl
  | some m =>
    rw [numG_atoi e] at h
    have := Option.some.inj h
    subst this
    exact absurd (numG_itoa e) hn
theorem numG_same {n : Int} (hn : 0 ≤ n) (hl : l.length ≤ k) (h : Lib.itoa n = l) : numG k l = some n.toNat := by
  obtain ⟨m, rfl⟩ : ∃ m : Nat, n = m := ⟨n.toNat, by omega⟩
  rw [itoa_nat] at h
  subst h
  exact numG_dec hl
end
end Go.Proofs.YtdbpeikijonjmaaDoor.M
namespace Go.Proofs.YtdbpeikijonjmaaDoor.Image
open Go.ChangeShapes Go.WideShapes Go.ChangeAt Go.RowKit
open Go.Proofs.YtdbpeikijonjmaaDoor.M
set_option linter.unusedVariables false

set_option maxHeartbeats 4000000 in
theorem num_is (k : Nat) (kz : Int) (hkz : kz = k) (hk : k ≤ 18) (s : ByteArray) (w : World) (hs : s.size ≤ 140737488351232) (hh : Has w) :
    Calls Tryd.prog 26 #[.string s, .int .i64 kz] w fun e w' => e = .returned (.tuple #[.int .i64 (nuV k s), errV 45 (nuE k s)]) ∧ Below w.heap.size w w' := by
  have HH := hide hh
  clear hh
  by_cases h4 : k < s.size
  · obtain ⟨n1, n2⟩ := nu_none (numG_long (l := s.data.toList) (by rw [len_size]; exact h4))
    have N1 := hide n1
    have N2 := hide n2
    clear n1 n2
    have h4z : kz < (s.size : Int) := by omega
    clear h4 hkz
    go_enter Tryd.func26, Tryd.ntmps26
    go_wp2
    go_ret2
    exact ⟨by rw [N1.out, N2.out]; rfl, Below.refl _ _⟩
  · have h4z : ¬ kz < (s.size : Int) := by omega
    have HL := hide (show s.size ≤ 18 by omega)
    have HLK := hide (show s.data.toList.length ≤ k by rw [len_size]; omega)
    clear h4 hkz hk hs
    cases ha : Lib.atoi s.data.toList with
    | none =>
      obtain ⟨n1, n2⟩ := nu_none (numG_noatoi (k := k) ha)
      have N1 := hide n1
      have N2 := hide n2
      clear n1 n2
      go_enter Tryd.func26, Tryd.ntmps26
      go_wp2_with (fail)
      refine (atoi_none s _ HL.out ha HH.out).mono ?_
      rintro e w1 ⟨⟨T, a, rfl⟩, hb⟩
      go_wp2
      go_ret2
      exact ⟨by rw [N1.out, N2.out]; rfl, hb⟩
    | some n =>
      have HA := hide ha
      obtain ⟨b1, b2⟩ := Lib.atoi_bound ha (by rw [len_size]; have := HL.out; omega)
      have CA := hide (atoi_some s n w HL.out ha)
      clear ha
      by_cases hn : n < 0
      · obtain ⟨n1, n2⟩ := nu_none (numG_neg (k := k) HA.out hn)
        have N1 := hide n1
        have N2 := hide n2
        clear n1 n2
        go_enter Tryd.func26, Tryd.ntmps26
        go_wp2_with (fail)
        refine CA.out.mono ?_
        rintro e w1 ⟨rfl, hb⟩
        go_wp2
        go_ret2
        exact ⟨by rw [N1.out, N2.out]; rfl, hb⟩
      · go_enter Tryd.func26, Tryd.ntmps26
        go_wp2_with (fail)
        refine CA.out.mono ?_
        rintro e w1 ⟨rfl, hb⟩
        have HB1 := hide hb
        have HH1 := hide (HH.out.below hb)
        clear hb
        go_wp2_with (fail)
        refine (itoa_any n _ (by omega) (by omega) HH1.out).mono ?_
        rintro e w2 ⟨rfl, hb⟩
        have HB2 := hide (below_on HB1.out hb)
        clear hb
        by_cases hq : Lib.itoa n = s.data.toList
        · obtain ⟨n1, n2⟩ := nu_some (numG_same (by omega) HLK.out hq)
          have N1 := hide (show nuV k s = n by rw [n1]; omega)
          have N2 := hide n2
          clear n1 n2
          have hs2 : ({ data := (Lib.itoa n).toArray } : ByteArray) = s := byte_ext hq
          have hs3 : (Lib.itoa n == s.toList) = true := by rw [Lib.toList_data, hq]; simp
          have HS := hide hs2
          clear hs2 hq
          go_wp2
          all_goals first
            | (exfalso; omega)
            | (go_ret2; exact ⟨by rw [N1.out, N2.out]; rfl, HB2.out⟩)
        · obtain ⟨n1, n2⟩ := nu_none (numG_other (k := k) HA.out hq)
          have N1 := hide n1
          have N2 := hide n2
          clear n1 n2
          have hs3 : (Lib.itoa n == s.toList) = false := by rw [Lib.toList_data]; exact beq_eq_false_iff_ne.2 hq
          clear hq
          go_wp2
          all_goals first
            | (exfalso; omega)
            | (go_ret2; exact ⟨by rw [N1.out, N2.out]; rfl, HB2.out⟩)
theorem num_any (k : Nat) (hk : k ≤ 18) (s : ByteArray) (w : World) (hs : s.size ≤ 140737488351232) (hh : Has w) :
    Calls Tryd.prog 26 #[.string s, .int .i64 k] w fun e w' => e = .returned (.tuple #[.int .i64 (nuV k s), errV 45 (nuE k s)]) ∧ Below w.heap.size w w' := num_is k _ rfl hk s w hs hh
theorem number_any (s : ByteArray) (w : World) (hs : s.size ≤ 140737488351232) (hh : Has w) :
    Calls Tryd.prog 26 #[.string s, .int .i64 4] w fun e w' => e = .returned (.tuple #[.int .i64 (numV s), errV 45 (numE s)]) ∧ Below w.heap.size w w' := num_any 4 (by omega) s w hs hh
end Go.Proofs.YtdbpeikijonjmaaDoor.Image
