/-
  Plain mathematics: what is printed of an image that is right is read as it was, and a text that is read as an image that is right is printed as it was; and which of two images is newer.
-/
import Derived.Test.YtdbpeikijonjmaaDoorImg5
namespace Go.Proofs.YtdbpeikijonjmaaDoor.M

theorem cut_one {l acc p : List UInt8} (h : cutAcc acc l = [p]) : acc ++ l = p := by
  rcases index_parts l 32 with ⟨_, h2⟩ | ⟨a, r, rfl, h2, _⟩
  · rw [cut_none l acc h2] at h
    cases h
    rfl
  · rw [cut_hit a acc r h2] at h
    have := cut_len r []
    have e := congrArg List.length h
    simp only [List.length_cons, List.length_nil] at e
    omega
theorem cut_more {l acc p q : List UInt8} {ps : List (List UInt8)} (h : cutAcc acc l = p :: q :: ps) : ∃ r, acc ++ l = p ++ 32 :: r ∧ cutAcc [] r = q :: ps := by
  rcases index_parts l 32 with ⟨_, h2⟩ | ⟨a, r, rfl, h2, _⟩
  · rw [cut_none l acc h2] at h
    cases h
  · rw [cut_hit a acc r h2] at h
    injection h with h1 h3
    refine ⟨r, ?_, h3⟩
    rw [← h1]
    simp
theorem cut_three {l a b c : List UInt8} (h : cutL l = [a, b, c]) : l = a ++ 32 :: (b ++ 32 :: c) := by
  obtain ⟨r, h1, h2⟩ := cut_more h
  obtain ⟨r2, h3, h4⟩ := cut_more h2
  have h5 := cut_one h4
  rw [List.nil_append] at h1 h3 h5
  rw [h1, h3, h5]
theorem three_cut {a b c : List UInt8} (ha : (32 : UInt8) ∉ a) (hb : (32 : UInt8) ∉ b) (hc : (32 : UInt8) ∉ c) : cutL (a ++ 32 :: (b ++ 32 :: c)) = [a, b, c] := by
  unfold cutL
  rw [cut_hit a [] _ ha, cut_hit b [] _ hb, cut_none c [] hc]
  rfl
theorem letS_blank {s : ByteArray} (h : letS s = true) : (32 : UInt8) ∉ s.data.toList := by
  intro hm
  unfold letS at h
  have := List.all_eq_true.1 h _ hm
  revert this
  decide
theorem dec_blank : ∀ (k n : Nat), n ≤ k → (32 : UInt8) ∉ Lib.decDigits n
  | k, n, hk => by
    have key : ∀ d : Nat, d < 10 → (32 : UInt8) ≠ UInt8.ofNat (48 + d) := by
      intro d hd e
      have e2 := congrArg UInt8.toNat e
      have e3 : (UInt8.ofNat (48 + d)).toNat = 48 + d := by simp; omega
      rw [e3] at e2
      have e4 : (32 : UInt8).toNat = 32 := rfl
      omega
    by_cases h : n < 10
    · rw [dec_small h]
      simp only [List.mem_singleton]
      exact key n h
    · cases k with
      | zero => omega
      | succ k =>
        rw [dec_big h]
        simp only [List.mem_append, List.mem_singleton]
        intro hm
        rcases hm with hm | hm
        · exact dec_blank k (n / 10) (by omega) hm
        · exact key _ (Nat.mod_lt _ (by omega)) hm
theorem line_data (nm cd : ByteArray) (v : Int) : (lineB nm v cd).data.toList = nm.data.toList ++ 32 :: (Lib.itoa v ++ 32 :: cd.data.toList) := by
  unfold lineB spcB
  simp [ByteArray.data_append]
/-- What is printed is read as it was. -/
theorem par_line {nm cd : ByteArray} {v : Int} (h : imgE nm v cd = 0) : parO (lineB nm v cd) = some (nm, v.toNat, cd) := by
  obtain ⟨z1, z2, z3, z4, z5, z6, z7⟩ := imgE_zero h
  obtain ⟨n, rfl⟩ : ∃ n : Nat, v = n := ⟨v.toNat, by omega⟩
  unfold parO
  rw [line_data, itoa_nat, three_cut (letS_blank z2) (dec_blank n n (Nat.le_refl _)) (letS_blank z3)]
  simp only [bs_data]
  rw [numO_dec (dec_len 3 n (by omega))]
  rfl
/-- What is read is printed as it was. -/
theorem line_par {s a c : ByteArray} {n : Nat} (h : parO s = some (a, n, c)) : lineB a n c = s := by
  unfold parO at h
  split at h
  · rename_i x y z e
    cases hy : numO y with
    | none => rw [hy] at h; cases h
    | some m =>
      rw [hy] at h
      simp only [Option.map_some, Option.some.injEq, Prod.mk.injEq] at h
      obtain ⟨rfl, rfl, rfl⟩ := h
      apply Image.byte_ext
      rw [line_data, cut_three e, numO_itoa hy]
      rfl
  · cases h
theorem par_fact : parO { data := #[111, 115, 32, 49, 50, 32, 97, 98, 99] } = some ({ data := #[111, 115] }, 12, { data := #[97, 98, 99] }) := by rfl
theorem img_fact : imgE { data := #[111, 115] } 12 { data := #[97, 98, 99] } = 0 := by decide
theorem par_fact2 : parE { data := #[111, 115, 32, 49, 50, 32, 97, 98, 99] } = 0 ∧ parC { data := #[111, 115, 32, 49, 50, 32, 97, 98, 99] } = imgC { data := #[111, 115] } 12 { data := #[97, 98, 99] } := by
  obtain ⟨h1, h2⟩ := par_some par_fact
  have h3 : imgE { data := #[111, 115] } ((12 : Nat) : Int) { data := #[97, 98, 99] } = 0 := img_fact
  rw [if_pos h3] at h2
  exact ⟨h1.trans h3, h2⟩
/-- What Parse answers is an image of some parts; where nothing is wrong, they are right, and printed they are the text. -/
theorem par_shape (s : ByteArray) : ∃ (a c : ByteArray) (n : Int), parC s = imgC a n c ∧ a.size ≤ 8 ∧ c.size ≤ 8 ∧ (parE s = 0 → imgE a n c = 0 ∧ lineB a n c = s) := by
  cases h : parO s with
  | none =>
    obtain ⟨h1, h2⟩ := par_none h
    refine ⟨{ data := #[] }, { data := #[] }, 0, h2, by decide, by decide, fun h0 => ?_⟩
    rw [h1] at h0
    cases h0
  | some p =>
    obtain ⟨a, n, c⟩ := p
    obtain ⟨h1, h2⟩ := par_some h
    by_cases hE : imgE a n c = 0
    · obtain ⟨z1, z2, z3, z4, z5, z6, z7⟩ := imgE_zero hE
      rw [if_pos hE] at h2
      exact ⟨a, c, n, h2, z4, z5, fun _ => ⟨hE, line_par h⟩⟩
    · rw [if_neg hE] at h2
      refine ⟨{ data := #[] }, { data := #[] }, 0, h2, by decide, by decide, fun h0 => ?_⟩
      rw [h1] at h0
      exact absurd h0 hE
theorem par_back {nm cd : ByteArray} {v : Int} (h : imgE nm v cd = 0) : parE (lineB nm v cd) = 0 ∧ parC (lineB nm v cd) = imgC nm v cd := by
  obtain ⟨z1, z2, z3, z4, z5, z6, z7⟩ := imgE_zero h
  obtain ⟨n, rfl⟩ : ∃ n : Nat, v = n := ⟨v.toNat, by omega⟩
  obtain ⟨h1, h2⟩ := par_some (par_line h)
  rw [show ((n : Int).toNat) = n from rfl] at h1 h2
  rw [if_pos h] at h2
  exact ⟨h1.trans h, h2⟩
section
variable {nm cd nm' cd' nm'' cd'' : ByteArray} {v v' v'' : Int}
theorem newE_self (h : imgE nm v cd = 0) : newE nm v cd nm v cd = 0 ∧ newV nm v cd nm v cd = false := by
  have e := newE_ok h h rfl
  exact ⟨e, by rw [newV_ok e]; simp⟩
theorem newE_zero (h : newE nm v cd nm' v' cd' = 0) : imgE nm v cd = 0 ∧ imgE nm' v' cd' = 0 ∧ nm = nm' := by
  by_cases h1 : imgE nm v cd = 0
  · by_cases h2 : imgE nm' v' cd' = 0
    · by_cases h3 : nm = nm'
      · exact ⟨h1, h2, h3⟩
      · rw [newE_name h1 h2 h3] at h; cases h
    · rw [newE_second h1 h2] at h; exact absurd h h2
  · rw [newE_first h1] at h; exact absurd h h1
theorem newE_back (h : newE nm v cd nm' v' cd' = 0) : newE nm' v' cd' nm v cd = 0 := by
  obtain ⟨h1, h2, h3⟩ := newE_zero h
  exact newE_ok h2 h1 h3.symm
theorem newV_back (h : newE nm v cd nm' v' cd' = 0) : (newV nm v cd nm' v' cd' && newV nm' v' cd' nm v cd) = false := by
  rw [newV_ok h, newV_ok (newE_back h)]
  by_cases hv : v' < v
  · have : ¬ v < v' := by omega
    simp [hv, this]
  · simp [hv]
theorem newE_trans (h : newE nm v cd nm' v' cd' = 0) (h' : newE nm' v' cd' nm'' v'' cd'' = 0) : newE nm v cd nm'' v'' cd'' = 0 := by
  obtain ⟨h1, h2, h3⟩ := newE_zero h
  obtain ⟨h4, h5, h6⟩ := newE_zero h'
  exact newE_ok h1 h5 (h3.trans h6)
theorem newV_trans (h : newE nm v cd nm' v' cd' = 0) (h' : newE nm' v' cd' nm'' v'' cd'' = 0) : newV nm v cd nm' v' cd' = true → newV nm' v' cd' nm'' v'' cd'' = true → newV nm v cd nm'' v'' cd'' = true := by
  rw [newV_ok h, newV_ok h', newV_ok (newE_trans h h')]
  simp only [decide_eq_true_eq]
  intro a b
  omega
end
end Go.Proofs.YtdbpeikijonjmaaDoor.M
