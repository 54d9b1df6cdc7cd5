/-
  Plain mathematics on texts: which texts are numbers of at most four digits and that they are just those that are printed, and how a text is cut at blanks, whole or as far as four parts.
-/
import Derived.Test.YtdbpeikijonjmaaDoorImgMath
import Derived.Lib.Atoi
import Derived.Lib.ItoaNum
import Derived.Lib.Split
import Derived.Lib.IndexBytes
namespace Go.Proofs.YtdbpeikijonjmaaDoor.M
open Go.RowKit

theorem decFrom_ge : ∀ (l : List UInt8) (acc m : Nat), Lib.decFrom acc l = some m → acc ≤ m
  | [], acc, m, h => by simp only [Lib.decFrom, Option.some.injEq] at h; omega
  | b :: r, acc, m, h => by
    simp only [Lib.decFrom] at h
    cases hd : Lib.digitVal b with
    | none => rw [hd] at h; cases h
    | some d => rw [hd] at h; have := decFrom_ge r _ m h; omega
theorem decFrom_snoc : ∀ (l : List UInt8) (acc : Nat) (b : UInt8), Lib.decFrom acc (l ++ [b]) = (Lib.decFrom acc l).bind fun m => (Lib.digitVal b).map fun d => m * 10 + d
  | [], acc, b => by
    simp only [List.nil_append, Lib.decFrom, Option.bind_some]
    cases Lib.digitVal b <;> rfl
  | c :: r, acc, b => by
    simp only [List.cons_append, Lib.decFrom]
    cases Lib.digitVal c with
    | none => rfl
    | some d => exact decFrom_snoc r _ b
theorem digit_ofNat {d : Nat} (h : d < 10) : Lib.digitVal (UInt8.ofNat (48 + d)) = some d := by
  have e : (UInt8.ofNat (48 + d)).toNat = 48 + d := by simp; omega
  unfold Lib.digitVal
  rw [e, if_pos (by omega)]
  congr 1
  omega
theorem ofNat_digit {b : UInt8} {d : Nat} (h : Lib.digitVal b = some d) : UInt8.ofNat (48 + d) = b ∧ d < 10 := by
  obtain ⟨h1, h2, rfl⟩ := Lib.digitVal_eq h
  refine ⟨?_, by omega⟩
  rw [show 48 + (b.toNat - 48) = b.toNat by omega]
  exact UInt8.ofNat_toNat
theorem dec_small {n : Nat} (h : n < 10) : Lib.decDigits n = [UInt8.ofNat (48 + n)] := by rw [Lib.decDigits, dif_pos h]
theorem dec_big {n : Nat} (h : ¬ n < 10) : Lib.decDigits n = Lib.decDigits (n / 10) ++ [UInt8.ofNat (48 + n % 10)] := by rw [Lib.decDigits, dif_neg h]
theorem dec_ne (n : Nat) : Lib.decDigits n ≠ [] := by
  by_cases h : n < 10
  · rw [dec_small h]; simp
  · rw [dec_big h]; simp
theorem decFrom_dec : ∀ (k n : Nat), n ≤ k → Lib.decFrom 0 (Lib.decDigits n) = some n
  | k, n, hk => by
    by_cases h : n < 10
    · rw [dec_small h]
      simp only [Lib.decFrom, digit_ofNat h]
      congr 1
      omega
    · cases k with
      | zero => omega
      | succ k =>
        rw [dec_big h, decFrom_snoc, decFrom_dec k (n / 10) (by omega), Option.bind_some, digit_ofNat (Nat.mod_lt _ (by omega))]
        simp only [Option.map_some]
        congr 1
        omega
theorem head_snoc {α : Type} {l : List α} (h : l ≠ []) (b : α) : (l ++ [b]).head? = l.head? := by
  cases l with
  | nil => exact absurd rfl h
  | cons a r => rfl
theorem dec_head : ∀ (k n : Nat), n ≤ k → (Lib.decDigits n).head? = some 48 → n = 0
  | k, n, hk, hh => by
    by_cases h : n < 10
    · rw [dec_small h] at hh
      have e := Option.some.inj hh
      have e2 : (UInt8.ofNat (48 + n)).toNat = 48 := by rw [e]; rfl
      have e3 : (UInt8.ofNat (48 + n)).toNat = 48 + n := by simp; omega
      omega
    · cases k with
      | zero => omega
      | succ k =>
        rw [dec_big h, head_snoc (dec_ne _)] at hh
        have := dec_head k (n / 10) (by omega) hh
        omega
/-- A number of at most four digits, without a needless nought. -/
def numO (l : List UInt8) : Option Nat := if l = [] ∨ 4 < l.length ∨ (l.head? = some 48 ∧ 1 < l.length) then none else Lib.decFrom 0 l
theorem numO_dec {n : Nat} (h : (Lib.decDigits n).length ≤ 4) : numO (Lib.decDigits n) = some n := by
  unfold numO
  rw [if_neg, decFrom_dec n n (Nat.le_refl _)]
  intro hh
  rcases hh with hh | hh | ⟨h1, h2⟩
  · exact dec_ne n hh
  · omega
  · have := dec_head n n (Nat.le_refl _) h1
    subst this
    rw [dec_small (by omega)] at h2
    simp at h2
theorem dec_of : ∀ (k : Nat) (l : List UInt8) (n : Nat), l.length ≤ k → l ≠ [] → (l.head? = some 48 → l.length = 1) → Lib.decFrom 0 l = some n → Lib.decDigits n = l
  | 0, l, n, hk, hne, _, _ => by
    cases l with
    | nil => exact absurd rfl hne
    | cons a r => simp at hk
  | k + 1, l, n, hk, hne, hz, hd => by
    obtain ⟨r, b, rfl⟩ : ∃ r b, l = r ++ [b] := ⟨l.dropLast, l.getLast hne, (List.dropLast_concat_getLast hne).symm⟩
    rw [decFrom_snoc] at hd
    cases hr : Lib.decFrom 0 r with
    | none => rw [hr] at hd; cases hd
    | some m =>
      rw [hr, Option.bind_some] at hd
      cases hb : Lib.digitVal b with
      | none => rw [hb] at hd; cases hd
      | some d =>
        rw [hb] at hd
        have hn : m * 10 + d = n := Option.some.inj hd
        obtain ⟨eb, hd10⟩ := ofNat_digit hb
        by_cases hre : r = []
        · subst hre
          simp only [Lib.decFrom, Option.some.injEq] at hr
          subst hr
          rw [show n = d by omega, dec_small hd10, eb]
          rfl
        · have hh := head_snoc hre b
          have hr48 : r.head? ≠ some 48 := by
            intro h48
            have := hz (by rw [hh]; exact h48)
            cases r with
            | nil => exact hre rfl
            | cons a t => simp at this
          have ih := dec_of k r m (by simp at hk; omega) hre (fun h => absurd h hr48) hr
          have hm : 1 ≤ m := by
            cases r with
            | nil => exact absurd rfl hre
            | cons a t =>
              simp only [Lib.decFrom] at hr
              cases ha : Lib.digitVal a with
              | none => rw [ha] at hr; cases hr
              | some x =>
                rw [ha] at hr
                have hx := decFrom_ge t _ m hr
                obtain ⟨ea, _⟩ := ofNat_digit ha
                have : x ≠ 0 := by
                  intro h0
                  subst h0
                  apply hr48
                  rw [← ea]
                  rfl
                omega
          rw [dec_big (by omega), show n / 10 = m by omega, show n % 10 = d by omega, ih, eb]
theorem itoa_nat (n : Nat) : Lib.itoa n = Lib.decDigits n := by
  unfold Lib.itoa
  rw [if_neg (by omega)]
  rfl
theorem numO_some {l : List UInt8} {n : Nat} (h : numO l = some n) : l ≠ [] ∧ l.length ≤ 4 ∧ (l.head? = some 48 → l.length = 1) ∧ Lib.decFrom 0 l = some n := by
  unfold numO at h
  split at h
  · cases h
  · rename_i hc
    have hne : l ≠ [] := fun e => hc (Or.inl e)
    refine ⟨hne, by omega, fun h48 => ?_, h⟩
    have : ¬ 1 < l.length := fun h1 => hc (Or.inr (Or.inr ⟨h48, h1⟩))
    cases l with
    | nil => exact absurd rfl hne
    | cons a r => simp at this ⊢; exact this
theorem numO_itoa {l : List UInt8} {n : Nat} (h : numO l = some n) : Lib.itoa n = l := by
  obtain ⟨h1, h2, h3, h4⟩ := numO_some h
  rw [itoa_nat]
  exact dec_of l.length l n (Nat.le_refl _) h1 h3 h4
theorem numO_atoi {l : List UInt8} {n : Nat} (h : numO l = some n) : Lib.atoi l = some (n : Int) := by
  obtain ⟨h1, h2, h3, h4⟩ := numO_some h
  cases l with
  | nil => exact absurd rfl h1
  | cons b r =>
    have hb : ∃ d, Lib.digitVal b = some d := by
      simp only [Lib.decFrom] at h4
      cases hd : Lib.digitVal b with
      | none => rw [hd] at h4; cases h4
      | some d => exact ⟨d, rfl⟩
    obtain ⟨d, hd⟩ := hb
    obtain ⟨e1, e2, _⟩ := Lib.digitVal_eq hd
    have n45 : ¬ (b == 45) = true := by
      intro e
      have e := beq_iff_eq.1 e
      subst e
      revert e1
      decide
    have n43 : ¬ (b == 43) = true := by
      intro e
      have e := beq_iff_eq.1 e
      subst e
      revert e1
      decide
    show (if (b == 45) = true then _ else _) = _
    rw [if_neg n45, if_neg n43]
    unfold Lib.decNat
    rw [if_neg (by simp), h4]
    rfl
theorem numO_lt {l : List UInt8} {n : Nat} (h : numO l = some n) : n < 10000 := by
  obtain ⟨h1, h2, h3, h4⟩ := numO_some h
  have := Lib.decFrom_lt l 0 n h4
  have hp : 10 ^ l.length ≤ 10 ^ 4 := Nat.pow_le_pow_right (by omega) h2
  omega

/-- A text cut at its blanks; acc: what stands since the last one. -/
def cutAcc (acc : List UInt8) : List UInt8 → List (List UInt8)
  | [] => [acc]
  | b :: l => if b = 32 then acc :: cutAcc [] l else cutAcc (acc ++ [b]) l
def cutL (l : List UInt8) : List (List UInt8) := cutAcc [] l
theorem cut_none : ∀ (l acc : List UInt8), (32 : UInt8) ∉ l → cutAcc acc l = [acc ++ l]
  | [], acc, _ => by simp [cutAcc]
  | b :: l, acc, h => by
    have hb : ¬ b = 32 := fun e => h (by simp [e])
    rw [cutAcc, if_neg hb, cut_none l _ (fun hm => h (by simp [hm]))]
    simp
theorem cut_hit : ∀ (a acc r : List UInt8), (32 : UInt8) ∉ a → cutAcc acc (a ++ 32 :: r) = (acc ++ a) :: cutAcc [] r
  | [], acc, r, _ => by simp [cutAcc]
  | b :: a, acc, r, h => by
    have hb : ¬ b = 32 := fun e => h (by simp [e])
    rw [List.cons_append, cutAcc, if_neg hb, cut_hit a _ r (fun hm => h (by simp [hm]))]
    simp
theorem cut_len : ∀ (l acc : List UInt8), (cutAcc acc l).length ≤ l.length + 1 ∧ 1 ≤ (cutAcc acc l).length
  | [], acc => by simp [cutAcc]
  | b :: l, acc => by
    rw [cutAcc]
    split
    · have := cut_len l []
      simp only [List.length_cons]
      omega
    · have := cut_len l (acc ++ [b])
      simp only [List.length_cons]
      omega
theorem index_parts : ∀ (l : List UInt8) (c : UInt8), (Lib.indexByte l c = -1 ∧ c ∉ l) ∨ ∃ a r, l = a ++ c :: r ∧ c ∉ a ∧ Lib.indexByte l c = a.length
  | [], c => Or.inl ⟨rfl, by simp⟩
  | b :: l, c => by
    by_cases hb : b = c
    · subst hb
      exact Or.inr ⟨[], l, rfl, by simp, by simp [Lib.indexByte]⟩
    · have hbc : ¬ (b == c) = true := by simpa using hb
      rcases index_parts l c with ⟨h1, h2⟩ | ⟨a, r, rfl, h2, h3⟩
      · refine Or.inl ⟨?_, by simp [h2, Ne.symm hb]⟩
        rw [Lib.indexByte, if_neg hbc, h1]
        rfl
      · refine Or.inr ⟨b :: a, r, rfl, by simp [h2, Ne.symm hb], ?_⟩
        rw [Lib.indexByte, if_neg hbc, h3, if_neg (by simp)]
        simp
theorem split_cut : ∀ (k : Nat) (l : List UInt8), ((cutL l).length ≤ k + 1 → Lib.splitK [32] 0 k l = cutL l) ∧ (k + 1 < (cutL l).length → (Lib.splitK [32] 0 k l).length = k + 1)
  | 0, l => by
    rcases index_parts l 32 with ⟨h1, h2⟩ | ⟨a, r, rfl, h2, h3⟩
    · have e := cut_none l [] h2
      unfold cutL
      rw [e]
      simp [Lib.splitK]
    · have e := cut_hit a [] r h2
      have := cut_len r []
      unfold cutL
      rw [e]
      simp only [List.length_cons]
      exact ⟨fun h => by omega, fun _ => rfl⟩
  | k + 1, l => by
    rcases index_parts l 32 with ⟨h1, h2⟩ | ⟨a, r, rfl, h2, h3⟩
    · have e := cut_none l [] h2
      unfold cutL
      rw [e, Lib.splitK, Lib.index_one, h1, if_pos (by decide)]
      simp
    · have e := cut_hit a [] r h2
      obtain ⟨i1, i2⟩ := split_cut k r
      unfold cutL at i1 i2 ⊢
      rw [e, Lib.splitK, Lib.index_one, h3, if_neg (by simp)]
      have e1 : (a ++ 32 :: r).take (((a.length : Nat) : Int).toNat + 0) = a := by simp
      have e2 : (a ++ 32 :: r).drop (((a.length : Nat) : Int).toNat + [(32 : UInt8)].length) = r := by
        rw [show ((a.length : Nat) : Int).toNat + [(32 : UInt8)].length = a.length + 1 by simp, ← List.drop_drop]
        simp
      rw [e1, e2]
      simp only [List.length_cons, List.nil_append]
      exact ⟨fun h => by rw [i1 (by omega)], fun h => by rw [i2 (by omega)]⟩
/-- What strings.SplitN gives: all parts, or four where there are more. -/
def spcB : ByteArray := { data := #[32] }
def partsB (s : ByteArray) : List ByteArray := Lib.splitB spcB 0 (min 4 (s.size + 1) - 1) s
theorem parts_cut (s : ByteArray) : (partsB s).map (fun x => x.data.toList) = cutL s.data.toList ∨ ((partsB s).length = 4 ∧ 4 < (cutL s.data.toList).length) := by
  have hd := Lib.splitB_data spcB 0 (min 4 (s.size + 1) - 1) s
  have hb : spcB.data.toList = [32] := rfl
  rw [hb] at hd
  have hl := len_size s
  have hc := cut_len s.data.toList []
  obtain ⟨i1, i2⟩ := split_cut (min 4 (s.size + 1) - 1) s.data.toList
  by_cases h : (cutL s.data.toList).length ≤ min 4 (s.size + 1) - 1 + 1
  · left
    rw [← i1 h]
    exact hd
  · right
    have h4 := i2 (by omega)
    rw [← hd, List.length_map] at h4
    unfold cutL at h ⊢
    have e : min 4 (s.size + 1) = 4 := by omega
    rw [e] at h
    refine ⟨?_, by omega⟩
    have : (partsB s).length = min 4 (s.size + 1) - 1 + 1 := h4
    omega
end Go.Proofs.YtdbpeikijonjmaaDoor.M
