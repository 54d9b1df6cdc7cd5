/-
  Contract of what package stairref2 says on nonces (Use): what it returns, what becomes of the object, and that all else stays as it was.
-/
import Derived.Test.YtidnjnhmkhekeaaDoorQNonRef
namespace Go.Proofs.YtidnjnhmkhekeaaDoor.NonRef
open Go.ChangeShapes Go.WideShapes Go.ChangeAt Go.RowKit
open Go.Proofs.YtidnjnhmkhekeaaDoor.M
set_option linter.unusedVariables false
set_option linter.unusedSimpArgs false

theorem erase_at {x : Int} : ∀ {xs : List Int} {i : Nat}, x ∉ xs.take i → xs[i]? = some x → xs.erase x = xs.take i ++ xs.drop (i + 1)
  | [], i, _, h => by simp at h
  | y :: t, 0, _, h => by simp at h; subst h; simp
  | y :: t, i + 1, hn, h => by
    have hy : y ≠ x := fun e => hn (by rw [e]; simp)
    have h2 := erase_at (x := x) (xs := t) (i := i) (fun hm => hn (by simp [hm])) (by simpa using h)
    rw [List.erase_cons_tail (by simp [hy]), h2]
    simp
theorem Row.take {w : World} {a : Option Addr} {xs : List Int} (h : Row w a xs) (k : Nat) : Row w a (xs.take k) := by
  rcases h with h | ⟨b, off, ha, hc⟩
  · exact Or.inl (by rw [h]; simp)
  · refine Or.inr ⟨b, off, ha, fun i x hx => hc i x ?_⟩
    rw [List.getElem?_take] at hx
    split at hx
    · exact hx
    · cases hx
theorem Row.drop {w : World} {b off : Nat} {xs : List Int} (h : Row w (some ⟨b, off, none⟩) xs) (k : Nat) : Row w (some ⟨b, off + k, none⟩) (xs.drop k) := by
  rcases h with h | ⟨b', off', ha, hc⟩
  · exact Or.inl (by rw [h]; simp)
  · cases ha
    refine Or.inr ⟨b, off + k, rfl, fun i x hx => ?_⟩
    rw [List.getElem?_drop] at hx
    have := hc (k + i) x hx
    rw [← Nat.add_assoc] at this
    exact this

theorem fin2 {w w7 w8 : World} {B g : Nat} {v v7 v8 : Value} {last many : Int} {xs : List Int} (hne : v.ownBlock ≠ some g) (hgl : g < w.heap.size) (h4 : B ≤ g) (hB : B ≤ w.heap.size) (h567 : isM last = true ∧ 0 ≤ many ∧ many ≤ 30)
    (hb7 : Below w.heap.size w w7) (ha7 : v7.ownBlock = none ∨ v7.ownBlock = some w.heap.size) (hng : v7.ownBlock ≠ some g) (ho8 : Own w8 B 3 v8 xs) (hg8 : w7.grownBy w8 v7.ownBlock) (hat8 : v8.ownBlock = v7.ownBlock ∨ v8.ownBlock = some w7.heap.size)
    (hG8 : w8.heap[g]? = some (.cells #[.int .i64 last, .int .i64 many, v] 55)) :
    ∃ v', RIs (w8.setRow g #[.int .i64 last, .int .i64 many, v8]) B g last many v' xs ∧ Only (rfoot g v) w (w8.setRow g #[.int .i64 last, .int .i64 many, v8]) ∧ (∀ k, rfoot g v' k → rfoot g v k ∨ w.heap.size ≤ k) := by
  have hsz := hb7.size
  have hfr : ∀ k, v8.ownBlock = some k → w.heap.size ≤ k := by
    intro k hk
    rcases hat8 with h | h
    · rw [h] at hk
      rcases ha7 with h2 | h2
      · rw [h2] at hk; cases hk
      · rw [h2] at hk; cases hk; exact Nat.le_refl _
    · rw [h] at hk; cases hk; exact hsz
  have hn8 : v8.ownBlock ≠ some g := fun e => by have := hfr g e; omega
  refine ⟨v8, ⟨setRow_heap _ _ _ _ _ _ hG8, ho8.only (S := fun k => k = g) ((Only.refl (fun k => k = g) w8).setRow (b := g) rfl _) (fun k hk e => hn8 (by rw [hk, e])), hn8, h4, h567.1, h567.2.1, h567.2.2⟩, ?_, ?_⟩
  · refine ((Only.of_below hb7).grown hg8 (fun k hk => ?_)).setRow (b := g) (Or.inl rfl) _
    rcases ha7 with h2 | h2
    · rw [h2] at hk; cases hk
    · rw [h2] at hk; cases hk; exact Or.inr (Nat.le_refl _)
  · rintro k (rfl | hk)
    · exact Or.inl (Or.inl rfl)
    · exact Or.inr (hfr k hk)

set_option maxHeartbeats 4000000 in
theorem use_walk (g : Nat) (v : Value) (last many x : Int) (xs : List Int) (w : World) (B : Nat) (h : RIs w B g last many v xs) (hl : xs.length ≤ 30) (hB : B ≤ w.heap.size) :
    Calls Tryd.prog 20 #[.pointer (some ⟨g, 0, none⟩), .int .i64 x] w fun e w' =>
      (x ∉ xs ∧ e = .returned (.int .i64 5) ∧ w' = w) ∨ (x ∈ xs ∧ e = .returned (.int .i64 0) ∧ ∃ v', RIs w' B g last many v' (xs.erase x) ∧ Only (rfoot g v) w w' ∧ (∀ k, rfoot g v' k → rfoot g v k ∨ w.heap.size ≤ k)) := by
  obtain ⟨h1, h2, h3, h4, h5, h6, h7⟩ := h
  obtain ⟨a, cap, rfl, hc, hr⟩ := h2.row
  have HG := hide h1
  have HO := hide h2
  have HNE := hide h3
  have HR := hide hr
  have H567 := hide (And.intro h5 (And.intro h6 h7))
  obtain ⟨r0, r1, r2⟩ := tri_cells h1
  have hgl := blk_lt h1
  have hcap : xs.length ≤ cap := by
    rcases h2.2 with ⟨e, _⟩ | ⟨_, _, _, e, _, _, h, _⟩
    · injection e with e1 e2 e3; omega
    · injection e with e1 e2 e3; omega
  clear h1 h2 h3 h5 h6 h7 hr
  go_enter Tryd.func20, Tryd.ntmps20
  go_wp2
  go_loopw [5, 6] (fun s5 _ wr => ∃ i : Nat, i ≤ xs.length ∧ s5 = .int .i64 i ∧ Hid (x ∉ xs.take i) ∧ wr = w) (fun s5 _ _ => xs.length - (intOf s5).toNat)
  case atStart => exact ⟨0, by omega, rfl, (by show x ∉ xs.take 0; simp), rfl⟩
  case round =>
    obtain ⟨i, hi, rfl, HN, rfl⟩ := hrel
    by_cases hlt : i < xs.length
    · have hlz : (i : Int) < xs.length := by omega
      obtain ⟨y, hy⟩ : ∃ y, xs[i]? = some y := ⟨xs[i]'hlt, List.getElem?_eq_getElem hlt⟩
      obtain ⟨b, off, rfl, hcell⟩ : ∃ b off, a = some ⟨b, off, none⟩ ∧ wr.cell? ⟨b, off + i, none⟩ = some (.int .i64 y) := by
        rcases HR.out with h | ⟨b, off, h1, h2⟩
        · rw [h] at hy; simp at hy
        · exact ⟨b, off, h1, h2 i y hy⟩
      have HY := hide hy
      clear hy
      by_cases hyx : y = x
      · subst hyx
        have HE := hide (erase_at HN.out HY.out)
        have HIN := hide (List.mem_of_getElem? HY.out)
        have HT := hide (Row.take HR.out i)
        have HLT := hide (show (xs.take i).length = i by rw [List.length_take]; omega)
        have hcz : (i : Int) ≤ cap := by omega
        go_upto_region 7 with (at_builtin; refine wpList_appAt rfl _ _ 48 rfl B 3 Bank.info_int Tryd.underlying48 _ [] rfl (Own.nil _ _ _) (some ⟨b, off, none⟩) i cap (xs.take i) rfl HLT.out.symm (fun h => by cases h) HT.out (by rw [HLT.out]; simp; omega) hB ?_; intro v7 w7 ho7 hg7 hat7)
        have hb7 : Below wr.heap.size wr w7 := (Below.refl _ _).grown hg7 (Nat.le_refl _) (fun k hk => absurd (show (none : Option Nat) = some k from hk) (by simp))
        have hat : v7.ownBlock = none ∨ v7.ownBlock = some wr.heap.size := hat7
        rw [List.nil_append] at ho7
        have HO7 := hide ho7
        have HB7 := hide hb7
        have HA7 := hide hat
        have HG7 := hide (blk_below HG.out hb7)
        have HR7 := hide (HR.out.below hb7)
        obtain ⟨a7, c7, hv7, _, _⟩ := ho7.row
        rw [HLT.out] at hv7
        subst hv7
        clear hg7 hat7 ho7 hb7 hat r0 r1 r2 hcell
        obtain ⟨r0, r1, r2⟩ := tri_cells HG7.out
        obtain ⟨f0, f1, f2⟩ := tri_free HG7.out
        have hi1 : (i : Int) + 1 ≤ xs.length := by omega
        have hc1 : (i : Int) + 1 ≤ cap := by omega
        have HLD := hide (show (xs.drop (i + 1)).length = xs.length - (i + 1) by rw [List.length_drop])
        have hB7 : B ≤ w7.heap.size := Nat.le_trans hB HB7.out.size
        have HNG := hide (show (Value.slice a7 i c7).ownBlock ≠ some g from fun e => by
          rcases HA7.out with h | h
          · rw [h] at e; cases e
          · rw [h] at e; cases e; omega)
        by_cases hce : cap = i + 1
        · subst hce
          have HDN := hide (show xs.drop (i + 1) = [] from List.drop_eq_nil_of_le (by omega))
          go_wp2_with (at_builtin; refine wpList_appAt rfl _ _ 48 rfl B 3 Bank.info_int Tryd.underlying48 (.slice a7 i c7) (xs.take i) rfl HO7.out (some ⟨b, off, none⟩) _ _ (xs.drop (i + 1)) rfl (by rw [HLD.out]; omega) (fun h => by cases h) (Or.inl HDN.out) (by rw [HLT.out, HLD.out]; omega) hB7 ?_; intro v8 w8 ho8 hg8 hat8; obtain ⟨a8, c8, hv8, _, _⟩ := ho8.row; rw [← HE.out] at ho8 hv8; subst hv8; have hG8 := (hg8.block g (by have := HB7.out.size; omega) (fun e => HNG.out e.symm)).trans HG7.out; obtain ⟨s0, s1, s2⟩ := tri_cells hG8; obtain ⟨t0, t1, t2⟩ := tri_free hG8)
          rw [set_last hG8]
          have HF := hide (fin2 HNE.out hgl h4 hB H567.out HB7.out HA7.out HNG.out ho8 hg8 hat8 hG8)
          go_ret
          exact Or.inr ⟨HIN.out, rfl, HF.out⟩
        · have HRD := hide (Row.drop HR7.out (i + 1))
          have hce2 : ¬ cap - (i + 1) = 0 := by omega
          go_wp2_with (at_builtin; refine wpList_appAt rfl _ _ 48 rfl B 3 Bank.info_int Tryd.underlying48 (.slice a7 i c7) (xs.take i) rfl HO7.out (some ⟨b, off + (i + 1), none⟩) (xs.length - (i + 1)) (cap - (i + 1)) (xs.drop (i + 1)) rfl HLD.out.symm (fun h => by cases h) HRD.out (by rw [HLT.out, HLD.out]; omega) hB7 ?_; intro v8 w8 ho8 hg8 hat8; obtain ⟨a8, c8, hv8, _, _⟩ := ho8.row; rw [← HE.out] at ho8 hv8; subst hv8; have hG8 := (hg8.block g (by have := HB7.out.size; omega) (fun e => HNG.out e.symm)).trans HG7.out; obtain ⟨s0, s1, s2⟩ := tri_cells hG8; obtain ⟨t0, t1, t2⟩ := tri_free hG8)
          rw [set_last hG8]
          have HF := hide (fin2 HNE.out hgl h4 hB H567.out HB7.out HA7.out HNG.out ho8 hg8 hat8 hG8)
          go_ret
          exact Or.inr ⟨HIN.out, rfl, HF.out⟩
      · have HN2 := hide (show y ≠ x → x ∉ xs.take (i + 1) from fun hne hm => by
          rw [take_one HY.out, List.mem_append, List.mem_singleton] at hm
          rcases hm with hm | hm
          · exact HN.out hm
          · exact hne hm.symm)
        have HN3 := hide (HN2.out hyx)
        go_wp2
        go_roundw
        case rel => exact ⟨i + 1, by omega, by go_num, HN3.out, by trivial⟩
        case measure => simp [intOf]; omega
    · have hlz : ¬ (i : Int) < xs.length := by omega
      have HNO := hide (show x ∉ xs by have := HN.out; rwa [List.take_of_length_le (by omega)] at this)
      go_wp2
      go_ret
      exact Or.inl ⟨HNO.out, rfl, rfl⟩
end Go.Proofs.YtidnjnhmkhekeaaDoor.NonRef
