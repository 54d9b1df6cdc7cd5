/-
  Plain mathematics on rules: what is wrong with some, whether a bank fits, the mask of their registers; who is alike where it counts is judged alike, and a rule more is no easier.
-/
import Derived.Test.YtojdaifnljghkabGreatDoorPack1
import Derived.Test.YtojdaifnljghkabGreatDoorPack2
namespace Go.Proofs.YtojdaifnljghkabGreatDoor.M

/-- What is wrong with one rule, behind some registers. -/
def ruleE (prev : List Int) (r : Int) (g : List Int) : Int := if isReg r = true then (if 12 < g.length then 4 else if okAll g = true then (if prev.contains r = true then 7 else 0) else 1) else 1
def rulesF : List Int → List (Int × List Int) → Int
  | _, [] => 0
  | prev, c :: t => if ruleE prev c.1 c.2 = 0 then rulesF (prev ++ [c.1]) t else ruleE prev c.1 c.2
def rulesE (l : List (Int × List Int)) : Int := if 8 < l.length then 4 else rulesF [] l
/-- Does a bank fit? The mask. -/
def fitsB (l : List (Int × List Int)) (b : List Int) : Bool := l.all fun c => c.2.contains (b.getD c.1.toNat 0)
def maskF : Int → List (Int × List Int) → Int
  | m, [] => m
  | m, c :: t => maskF (m + 2 ^ c.1.toNat) t
def maskV (l : List (Int × List Int)) : Int := maskF 0 l
section
variable {prev : List Int} {r : Int} {g : List Int} {c : Int × List Int} {t l : List (Int × List Int)}
theorem ruleE_reg (h : isReg r = false) : ruleE prev r g = 1 := by unfold ruleE; rw [h]; rfl
theorem ruleE_full (h : isReg r = true) (h2 : 12 < g.length) : ruleE prev r g = 4 := by unfold ruleE; rw [if_pos h, if_pos h2]
theorem ruleE_good (h : isReg r = true) (h2 : ¬ 12 < g.length) (h3 : okAll g = false) : ruleE prev r g = 1 := by unfold ruleE; rw [if_pos h, if_neg h2, h3]; rfl
theorem ruleE_clash (h : isReg r = true) (h2 : ¬ 12 < g.length) (h3 : okAll g = true) (h4 : prev.contains r = true) : ruleE prev r g = 7 := by unfold ruleE; rw [if_pos h, if_neg h2, if_pos h3, if_pos h4]
theorem ruleE_ok (h : isReg r = true) (h2 : ¬ 12 < g.length) (h3 : okAll g = true) (h4 : prev.contains r = false) : ruleE prev r g = 0 := by unfold ruleE; rw [if_pos h, if_neg h2, if_pos h3, h4]; rfl
theorem ruleE_zero (h : ruleE prev r g = 0) : isReg r = true ∧ ¬ 12 < g.length ∧ okAll g = true ∧ prev.contains r = false := by
  cases h1 : isReg r with
  | false => rw [ruleE_reg h1] at h; cases h
  | true =>
    by_cases h2 : 12 < g.length
    · rw [ruleE_full h1 h2] at h; cases h
    · cases h3 : okAll g with
      | false => rw [ruleE_good h1 h2 h3] at h; cases h
      | true =>
        cases h4 : prev.contains r with
        | true => rw [ruleE_clash h1 h2 h3 h4] at h; cases h
        | false => exact ⟨rfl, h2, rfl, rfl⟩
theorem rulesF_ok (h : ruleE prev c.1 c.2 = 0) : rulesF prev (c :: t) = rulesF (prev ++ [c.1]) t := by rw [rulesF, if_pos h]
theorem rulesF_bad (h : ¬ ruleE prev c.1 c.2 = 0) : rulesF prev (c :: t) = ruleE prev c.1 c.2 := by rw [rulesF, if_neg h]
theorem rulesE_full (h : 8 < l.length) : rulesE l = 4 := if_pos h
theorem rulesE_go (h : ¬ 8 < l.length) : rulesE l = rulesF [] l := if_neg h
theorem rulesE_zero (h : rulesE l = 0) : ¬ 8 < l.length ∧ rulesF [] l = 0 := by
  by_cases h1 : 8 < l.length
  · rw [rulesE_full h1] at h; cases h
  · exact ⟨h1, (rulesE_go h1).symm.trans h⟩
end
/-- Some rules that are right, behind some registers: each is of a register that none ahead is of. -/
theorem rules_regs : ∀ (l : List (Int × List Int)) (prev : List Int), rulesF prev l = 0 → (∀ c ∈ l, isReg c.1 = true ∧ okAll c.2 = true ∧ ¬ 12 < c.2.length ∧ c.1 ∉ prev) ∧ (l.map (·.1)).Nodup
  | [], _, _ => ⟨fun c h => by simp at h, List.nodup_nil⟩
  | c :: t, prev, h => by
    by_cases h0 : ruleE prev c.1 c.2 = 0
    · rw [rulesF_ok h0] at h
      obtain ⟨z1, z2, z3, z4⟩ := ruleE_zero h0
      obtain ⟨i1, i2⟩ := rules_regs t (prev ++ [c.1]) h
      have hp : c.1 ∉ prev := fun hm => by rw [List.contains_iff_mem.2 hm] at z4; cases z4
      refine ⟨fun d hd => ?_, ?_⟩
      · rcases List.mem_cons.1 hd with rfl | hd
        · exact ⟨z1, z3, z2, hp⟩
        · obtain ⟨j1, j2, j3, j4⟩ := i1 d hd
          exact ⟨j1, j2, j3, fun hm => j4 (List.mem_append_left _ hm)⟩
      · rw [List.map_cons, List.nodup_cons]
        refine ⟨fun hm => ?_, i2⟩
        obtain ⟨d, hd, he⟩ := List.mem_map.1 hm
        exact (i1 d hd).2.2.2 (by rw [he]; simp)
    · rw [rulesF_bad h0] at h
      exact absurd h h0
theorem rules_app : ∀ (l t : List (Int × List Int)) (prev : List Int), rulesF prev (l ++ t) = 0 → rulesF prev l = 0
  | [], _, _, _ => rfl
  | c :: l, t, prev, h => by
    by_cases h0 : ruleE prev c.1 c.2 = 0
    · rw [List.cons_append, rulesF_ok h0] at h
      rw [rulesF_ok h0]
      exact rules_app l t _ h
    · rw [List.cons_append, rulesF_bad h0] at h
      exact absurd h h0
/-- One more register in a mask. -/
theorem bit_add_fin : ∀ (m : Fin 256) (r k : Fin 8), bit (m.val : Int) r.val = false → bit ((m.val : Int) + 2 ^ r.val) k.val = (decide (k.val = r.val) || bit (m.val : Int) k.val) ∧ (m.val : Int) + 2 ^ r.val < 256 := by decide +kernel
theorem bit_zero (k : Nat) : bit 0 k = false := by unfold bit; simp
theorem mask_bits : ∀ (l : List (Int × List Int)) (m : Int), 0 ≤ m → m < 256 → (∀ c ∈ l, isReg c.1 = true ∧ bit m c.1.toNat = false) → (l.map (·.1)).Nodup →
    (0 ≤ maskF m l ∧ maskF m l < 256) ∧ ∀ k : Nat, k < 8 → bit (maskF m l) k = ((l.any fun c => decide (c.1 = (k : Int))) || bit m k)
  | [], m, h0, h1, _, _ => ⟨⟨h0, h1⟩, fun k _ => by simp [maskF]⟩
  | c :: t, m, h0, h1, hc, hn => by
    obtain ⟨hr, hb⟩ := hc c (List.mem_cons_self)
    have hreg := isReg_iff.1 hr
    rw [List.map_cons, List.nodup_cons] at hn
    obtain ⟨hn1, hn2⟩ := hn
    have fin : ∀ k : Nat, k < 8 → bit (m + 2 ^ c.1.toNat) k = (decide (k = c.1.toNat) || bit m k) ∧ m + 2 ^ c.1.toNat < 256 := by
      intro k hk
      have := bit_add_fin ⟨m.toNat, by omega⟩ ⟨c.1.toNat, by omega⟩ ⟨k, hk⟩
      simp only [] at this
      rw [show ((m.toNat : Nat) : Int) = m by omega] at this
      exact this hb
    have hpos : (0 : Int) ≤ 2 ^ c.1.toNat := Int.pow_nonneg (by omega)
    obtain ⟨i1, i2⟩ := mask_bits t (m + 2 ^ c.1.toNat) (by omega) (fin 0 (by omega)).2 (fun d hd => by
      obtain ⟨d1, d2⟩ := hc d (List.mem_cons_of_mem _ hd)
      refine ⟨d1, ?_⟩
      have dreg := isReg_iff.1 d1
      rw [(fin d.1.toNat (by omega)).1, d2]
      have : ¬ d.1.toNat = c.1.toNat := fun he => hn1 (List.mem_map.2 ⟨d, hd, by omega⟩)
      simp [this]) hn2
    refine ⟨i1, fun k hk => ?_⟩
    show bit (maskF (m + 2 ^ c.1.toNat) t) k = _
    rw [i2 k hk, (fin k hk).1, List.any_cons]
    have e : decide (k = c.1.toNat) = decide (c.1 = (k : Int)) := decide_eq_decide.2 ⟨fun h => by omega, fun h => by omega⟩
    rw [e]
    cases decide (c.1 = (k : Int)) <;> cases (t.any fun c => decide (c.1 = (k : Int))) <;> cases bit m k <;> rfl
theorem mask_of {l : List (Int × List Int)} (h : rulesE l = 0) : isMask (maskV l) = true ∧ ∀ c ∈ l, bit (maskV l) c.1.toNat = true := by
  obtain ⟨_, h1⟩ := rulesE_zero h
  obtain ⟨h2, h3⟩ := rules_regs l [] h1
  obtain ⟨⟨m0, m1⟩, m2⟩ := mask_bits l 0 (by omega) (by omega) (fun c hc => ⟨(h2 c hc).1, bit_zero _⟩) h3
  refine ⟨isMask_iff.2 ⟨m0, by unfold maskV; omega⟩, fun c hc => ?_⟩
  have hr := isReg_iff.1 (h2 c hc).1
  unfold maskV
  rw [m2 c.1.toNat (by omega)]
  have : (l.any fun d => decide (d.1 = ((c.1.toNat : Nat) : Int))) = true := List.any_eq_true.2 ⟨c, hc, decide_eq_true (by omega)⟩
  rw [this]
  rfl
/-- Who is alike where it counts is judged alike. -/
theorem fits_same {l : List (Int × List Int)} {b c : List Int} (h : rulesE l = 0) (hd : differ b c (maskV l) = false) : fitsB l b = fitsB l c := by
  obtain ⟨_, hm⟩ := mask_of h
  obtain ⟨_, h1⟩ := rulesE_zero h
  obtain ⟨h2, _⟩ := rules_regs l [] h1
  unfold fitsB
  have e : ∀ d ∈ l, b.getD d.1.toNat 0 = c.getD d.1.toNat 0 := by
    intro d hdm
    apply Decidable.byContradiction
    intro hne
    have hr := isReg_iff.1 (h2 d hdm).1
    have : differ b c (maskV l) = true := by
      unfold differ
      rw [List.any_eq_true]
      exact ⟨((d.1.toNat : Nat) : Int), askedL_of (by omega) (hm d hdm), by rw [Int.toNat_natCast]; exact bne_iff_ne.2 hne⟩
    rw [hd] at this
    cases this
  rw [Bool.eq_iff_iff, List.all_eq_true, List.all_eq_true]
  exact ⟨fun hh d hdm => by rw [← e d hdm]; exact hh d hdm, fun hh d hdm => by rw [e d hdm]; exact hh d hdm⟩
theorem fits_more {l : List (Int × List Int)} {r : Int} {g b : List Int} (h : fitsB (l ++ [(r, g)]) b = true) : fitsB l b = true ∧ 0 < g.length := by
  unfold fitsB at h ⊢
  rw [List.all_append, Bool.and_eq_true] at h
  refine ⟨h.1, ?_⟩
  have := h.2
  simp at this
  cases g with
  | nil => simp at this
  | cons a t => simp
theorem rules_more {l : List (Int × List Int)} {c : Int × List Int} (h : rulesE (l ++ [c]) = 0) : rulesE l = 0 := by
  obtain ⟨h1, h2⟩ := rulesE_zero h
  rw [rulesE_go (by rw [List.length_append] at h1; simp at h1; omega)]
  exact rules_app l [c] [] h2
end Go.Proofs.YtojdaifnljghkabGreatDoor.M
