/-
  Contracts of package keeper's clone, and of slices.Clone at ints and at rules, over this translation: rules that share no memory with those that were handed in, and that memory that was there stays as it was.
-/
import Derived.Test.YtidnjnhmkhekeaaDoorQRule1
import Derived.Test.YtidnjnhmkhekeaaDoorQRecAt
import Derived.Test.YtidnjnhmkhekeaaDoorPack1
import Derived.Lib.SliceRun
namespace Go.Proofs.YtidnjnhmkhekeaaDoor.M
open Go.ChangeShapes Go.WideShapes Go.ChangeAt Go.RowKit
set_option linter.unusedVariables false

theorem good_one {w : World} {c : Int × Value × List Int} (h : goodIn w c) : ∀ u ∈ ruleV c, u.oneCell' = true := by
  obtain ⟨ad, cap, h1, _⟩ := h
  intro u hu
  unfold ruleV at hu
  simp only [List.mem_cons, List.not_mem_nil, or_false] at hu
  rcases hu with rfl | rfl
  · rfl
  · rw [h1]; rfl
theorem ownR_eq {α : Type} {n : Nat} {cv : α → List Value} {W W' : World} {B : Nat} {T : TypeId} {v : Value} {xs : List α} (h : OwnR n cv W B T v xs) (he : ∀ k, v.ownBlock = some k → W'.heap[k]? = W.heap[k]?) : OwnR n cv W' B T v xs := by
  refine ⟨h.1, ?_⟩
  rcases h.2 with h2 | ⟨g, cap, cur, h1, h2, h3, h4⟩
  · exact Or.inl h2
  · exact Or.inr ⟨g, cap, cur, h1, h2, (he g (by rw [h1]; rfl)).trans h3, h4⟩
theorem own_eq {W W' : World} {B : Nat} {T : TypeId} {v : Value} {xs : List Int} (h : Own W B T v xs) (he : ∀ k, v.ownBlock = some k → W'.heap[k]? = W.heap[k]?) : Own W' B T v xs := by
  refine ⟨h.1, ?_⟩
  rcases h.2 with h2 | ⟨g, cap, cur, h1, h2, h3, h4⟩
  · exact Or.inl h2
  · exact Or.inr ⟨g, cap, cur, h1, h2, (he g (by rw [h1]; rfl)).trans h3, h4⟩
theorem own_low {W : World} {B B' : Nat} {T : TypeId} {v : Value} {xs : List Int} (h : Own W B T v xs) (hb : B' ≤ B) : Own W B' T v xs := by
  refine ⟨h.1, ?_⟩
  rcases h.2 with h2 | ⟨g, cap, cur, h1, h2, h3, h4⟩
  · exact Or.inl h2
  · exact Or.inr ⟨g, cap, cur, h1, Nat.le_trans hb h2, h3, h4⟩
theorem own_good {W : World} {B : Nat} {T : TypeId} {r : Int} {v : Value} {xs : List Int} (h : Own W B T v xs) (hl : xs.length ≤ 12) : goodIn W (r, v, xs) := by
  obtain ⟨a, cap, h1, h2, h3⟩ := h.row
  exact ⟨a, cap, h1, by simp only []; unfold maxLen; omega, h2, h3⟩
theorem rulesL_set {l : List (Int × Value × List Int)} {k : Nat} {r : Int} {v v' : Value} {g : List Int} (h : l[k]? = some (r, v, g)) : rulesL (l.set k (r, v', g)) = rulesL l := by
  unfold rulesL
  rw [List.map_set]
  apply List.ext_getElem?
  intro j
  rw [List.getElem?_set]
  by_cases e : k = j
  · subst e
    have hk := (List.getElem?_eq_some_iff.1 h).1
    rw [if_pos rfl, List.length_map, if_pos hk, List.getElem?_map, h]
    rfl
  · rw [if_neg e]
end Go.Proofs.YtidnjnhmkhekeaaDoor.M
namespace Go.Proofs.YtidnjnhmkhekeaaDoor.Keeper
open Go.ChangeShapes Go.WideShapes Go.ChangeAt Go.RowKit
open Go.Proofs.YtidnjnhmkhekeaaDoor.M
set_option linter.unusedVariables false

theorem infoI : (Tryd.prog.info? 3).map (fun i => (i.zero, i.size, i.bytes)) = some (some (.int .i64 0), 1, 8) := by kernel_rfl
theorem infoR : (Tryd.prog.info? 73).map (fun i => (i.zero, i.size, i.bytes)) = some (some (.agg #[.int .i64 0, .slice none 0 0]), 2, 32) := by kernel_rfl
theorem empty_ints (w : World) : Own (w.alloc (.cells #[] 3)) w.heap.size 3 (.slice (some ⟨w.heap.size, 0, none⟩) 0 0) [] := World.ownsRow_made w #[] 0 (Nat.le_refl _) (Nat.zero_le _) rfl
theorem empty_rules (w : World) : OwnR 2 ruleV (w.alloc (.cells #[] 73)) w.heap.size 73 (.slice (some ⟨w.heap.size, 0, none⟩) 0 0) [] := World.ownsRow_made w #[] 0 (Nat.le_refl _) (Nat.zero_le _) rfl
theorem run_nilI (w : World) (a : Option Addr) (n c n' c' : Nat) : (binOp .eql 48 (.slice a n c) (.slice none n' c')).run Tryd.prog w = .ok (.bool a.isNone) w := Lib.run_eql_slice_nil w _ _ a n c n' c' Tryd.underlying48
theorem run_nilR (w : World) (a : Option Addr) (n c n' c' : Nat) : (binOp .eql 23 (.slice a n c) (.slice none n' c')).run Tryd.prog w = .ok (.bool a.isNone) w := Lib.run_eql_slice_nil w _ _ a n c n' c' Tryd.underlying23

set_option maxHeartbeats 2000000 in
theorem ints_any (ad : Option Addr) (g : List Int) (c : Nat) (w : World) (hl : g.length ≤ 12) (hrow : Row w ad g) :
    Calls Tryd.prog 63 #[.slice ad g.length c] w fun e w' => ∃ v', e = .returned v' ∧ Own w' w.heap.size 3 v' g ∧ Below w.heap.size w w' := by
  have q := run_nilI
  cases ad with
  | none =>
    have hg : g = [] := by
      rcases hrow with h | ⟨b, off, h, _⟩
      · exact h
      · cases h
    subst hg
    go_enter Tryd.func63, Tryd.ntmps63
    go_wp2
    go_ret
    exact ⟨_, rfl, Own.nil _ _ _, Below.refl _ _⟩
  | some ad =>
    have HR := hide (hrow.below (below_new w (.cells #[] 3)))
    have HE := hide (empty_ints w)
    clear hrow
    go_enter Tryd.func63, Tryd.ntmps63
    go_wp2_with (at_builtin; refine wpList_app rfl _ _ 48 rfl w.heap.size 3 infoI Tryd.underlying48 _ [] rfl HE.out (some ad) g.length c g rfl rfl (fun h => by cases h) HR.out (by simp; omega) (by simp) ?_)
    intro v' w1 ho hg
    have HB := hide (((Below.refl _ w).alloc (Nat.le_refl _) (.cells #[] 3)).grown hg (by simp) (by intro k hk; simp [Value.ownBlock] at hk; omega))
    have HO := hide ho
    clear ho hg
    go_wp2
    go_ret
    exact ⟨_, rfl, by simpa using HO.out, HB.out⟩
set_option maxHeartbeats 2000000 in
theorem rules_any (ad : Option Addr) (l : List (Int × Value × List Int)) (n c : Nat) (w : World) (hn : n = l.length) (hl : n ≤ 8) (hr : RulesIn w ad l) :
    Calls Tryd.prog 62 #[.slice ad n c] w fun e w' => ∃ v', e = .returned v' ∧ OwnR 2 ruleV w' w.heap.size 73 v' l ∧ Below w.heap.size w w' := by
  have q := run_nilR
  cases ad with
  | none =>
    have hg : l = [] := by
      rcases hr.1 with h | ⟨b, off, h, _⟩
      · exact h
      · cases h
    subst hg
    subst hn
    go_enter Tryd.func62, Tryd.ntmps62
    go_wp2
    go_ret
    exact ⟨_, rfl, OwnR.nil _ _ _, Below.refl _ _⟩
  | some ad =>
    have HR := hide (hr.below (below_new w (.cells #[] 73)))
    have HE := hide (empty_rules w)
    have HN := hide hn
    clear hr hn
    go_enter Tryd.func62, Tryd.ntmps62
    go_wp2_with (at_builtin; refine wpList_appRs (n := 2) (cv := ruleV) rfl _ _ 23 rfl w.heap.size 73 _ 32 infoR rfl (by omega) (by omega) Tryd.underlying23 ruleV_len _ [] rfl HE.out (some ad) n c l rfl HN.out (fun h => by cases h) HR.out.1 (fun c hc => good_one (HR.out.2 c hc)) (by have := HN.out; simp; omega) (by simp) ?_)
    intro v' w1 ho hg
    have HB := hide (((Below.refl _ w).alloc (Nat.le_refl _) (.cells #[] 73)).grown hg (by simp) (by intro k hk; simp [Value.ownBlock] at hk; omega))
    have HO := hide ho
    clear ho hg
    go_wp2
    go_ret
    exact ⟨_, rfl, by simpa using HO.out, HB.out⟩
/-- While the good ones are copied, one rule behind the other. -/
def CI (w : World) (B : Nat) (v : Value) (l : List (Int × Value × List Int)) (k : Nat) (wr : World) : Prop :=
  ∃ l', OwnR 2 ruleV wr w.heap.size 73 v l' ∧ rulesL l' = rulesL l ∧ (∀ x ∈ l'.take k, Own wr B 3 x.2.1 x.2.2) ∧ l'.drop k = l.drop k ∧ Below w.heap.size w wr ∧ B ≤ wr.heap.size
theorem ci_next {w w1 w2 : World} {B gr cap k : Nat} {l : List (Int × Value × List Int)} {l' : List (Int × Value × List Int)} {r : Int} {v v2 : Value} {g : List Int}
    (ho : OwnR 2 ruleV w1 w.heap.size 73 (.slice (some ⟨gr, 0, none⟩) l'.length cap) l') (hrl : rulesL l' = rulesL l) (hg : ∀ x ∈ l'.take k, Own w1 B 3 x.2.1 x.2.2) (hd : l'.drop k = l.drop k) (hb : Below w.heap.size w w1) (hB : B ≤ w1.heap.size) (hgr : gr < B) (hgw : w.heap.size ≤ gr)
    (hk : l[k]? = some (r, v, g)) (hv : Own w2 w1.heap.size 3 v2 g) (hb2 : Below w1.heap.size w1 w2) :
    CI w B (.slice (some ⟨gr, 0, none⟩) l'.length cap) l (k + 1) (w2.setCell ⟨gr, k * 2 + 1, none⟩ v2) := by
  have hk' : l'[k]? = some (r, v, g) := by
    have := congrArg (fun t => t[0]?) hd
    simp only [List.getElem?_drop, Nat.add_zero] at this
    rw [this]
    exact hk
  have hset : ∀ j, j ≠ gr → (w2.setCell ⟨gr, k * 2 + 1, none⟩ v2).heap[j]? = w2.heap[j]? := fun j hj => Below.heap_setCell _ _ _ _ hj
  have hsz : (w2.setCell ⟨gr, k * 2 + 1, none⟩ v2).heap.size = w2.heap.size := by simp [World.setCell]
  refine ⟨l'.set k (r, v2, g), ?_, (rulesL_set hk').trans hrl, ?_, ?_, ?_, by rw [hsz]; exact Nat.le_trans hB hb2.size⟩
  · have := own_cell ruleV_len (x' := (r, v2, g)) (j := 1) (u := v2) (ho.below hb2) hk' rfl (by omega)
    exact this
  · intro x hx
    rw [List.take_set, List.take_add_one, hk'] at hx
    have hlt := (List.getElem?_eq_some_iff.1 hk').1
    have hx2 : x ∈ l'.take k ∨ x = (r, v2, g) := by
      rw [List.set_append_right _ _ (by rw [List.length_take]; omega)] at hx
      rcases List.mem_append.1 hx with h | h
      · exact Or.inl h
      · right
        have e : k - (l'.take k).length = 0 := by rw [List.length_take]; omega
        rw [e] at h
        simpa using h
    rcases hx2 with h | rfl
    · have h1 := hg x h
      refine own_eq (W := w1) h1 (fun j hj => ?_)
      have hj1 := h1.block j hj
      rw [hset j (by omega)]
      exact hb2.block j (h1.lt j hj)
    · refine own_low (own_eq (W := w2) hv (fun j hj => ?_)) hB
      have hj1 := hv.block j hj
      exact hset j (by omega)
  · rw [List.drop_set_of_lt (by omega)]
    have := congrArg (List.drop 1) hd
    rw [List.drop_drop, List.drop_drop] at this
    exact this
  · have h3 := below_on hb hb2
    exact ⟨h3.os, h3.tape, h3.output, by rw [hsz]; exact h3.size, fun j hj => (hset j (by omega)).trans (h3.block j hj)⟩

/-- A copy of some rules, in memory of the call's own. -/
def Copied (w : World) (l : List (Int × Value × List Int)) (v' : Value) (w' : World) : Prop :=
  ∃ l' B, OwnR 2 ruleV w' w.heap.size 73 v' l' ∧ rulesL l' = rulesL l ∧ (∀ x ∈ l', Own w' B 3 x.2.1 x.2.2) ∧ w.heap.size ≤ B ∧ Below w.heap.size w w'
set_option maxHeartbeats 4000000 in
theorem clone_any (a : Option Addr) (l : List (Int × Value × List Int)) (n c : Nat) (w : World) (hn : n = l.length) (hm : n ≤ 8) (hr : RulesIn w a l) (hg : ∀ x ∈ l, x.2.2.length ≤ 12) :
    Calls Tryd.prog 30 #[.slice a n c] w fun e w' => ∃ v', e = .returned v' ∧ Copied w l v' w' := by
  have HN := hide hn
  have HR := hide hr
  have HGL := hide hg
  clear hn hr hg
  go_enter Tryd.func30, Tryd.ntmps30
  go_wp2_with (fail)
  refine (rules_any a l n c w HN.out hm HR.out).mono ?_
  rintro e w1 ⟨v1, rfl, ho1, hb1⟩
  obtain ⟨a1, c1, hv1, hc1, _⟩ := ho1.row ruleV_len
  subst hv1
  rw [← HN.out] at ho1 ⊢
  have HC0 : Hid (CI w w1.heap.size (.slice a1 n c1) l 0 w1) := ⟨l, ho1, rfl, fun x hx => by simp at hx, rfl, hb1, Nat.le_refl _⟩
  have HO1 := hide ho1
  have HB1 := hide hb1
  obtain ⟨_, hcap, hsome⟩ := ownR_cap ho1
  have hcapz : (n : Int) ≤ c1 := by omega
  clear ho1 hb1 hc1
  go_wp2
  go_loopw [4, 9, 10, 11, 12, 13, 14, 15, 16, 17, 18, 19, 20, 21, 22] (fun _ s9 _ _ _ _ _ _ _ _ _ _ _ _ _ wr => ∃ k : Nat, k ≤ n ∧ s9 = .int .i64 k ∧ Hid (CI w w1.heap.size (.slice a1 n c1) l k wr)) (fun _ s9 _ _ _ _ _ _ _ _ _ _ _ _ _ _ => n - (intOf s9).toNat)
  case atStart => exact ⟨0, by omega, rfl, HC0.out⟩
  case round =>
    obtain ⟨k, hk, rfl, HC⟩ := hrel
    by_cases hlt : k < n
    · have hlz : (k : Int) < n := by omega
      obtain ⟨l', ho, hrl, hgd, hd, hb, hB⟩ := HC.out
      obtain ⟨⟨r, v, g⟩, hx⟩ : ∃ x, l[k]? = some x := ⟨l[k]'(by have := HN.out; omega), List.getElem?_eq_getElem (by have := HN.out; omega)⟩
      have hx' : l'[k]? = some (r, v, g) := by
        have := congrArg (fun t => t[0]?) hd
        simp only [List.getElem?_drop, Nat.add_zero] at this
        rw [this]
        exact hx
      have hll : l'.length = n := by rw [← rulesL_len l', hrl, rulesL_len, HN.out]
      obtain ⟨gr, rfl⟩ := (ownR_cap ho).2.2 (fun e => by rw [e] at hx'; simp at hx')
      obtain ⟨ad, gc, hv, hgm, hgc, hrow⟩ := HR.out.2 _ (List.mem_of_getElem? hx)
      simp only [] at hv hgm hgc hrow
      subst hv
      have hg12 := HGL.out _ (List.mem_of_getElem? hx)
      simp only [] at hg12
      have hgb : w.heap.size ≤ gr ∧ gr < w1.heap.size := by
        have h := HO1.out
        exact ⟨h.block gr rfl, ownR_lt h gr rfl⟩
      rw [← hll] at ho
      obtain ⟨r1, f1⟩ := own_read ruleV_len ho hx' 1 _ rfl
      have IN := hide (ints_any ad g gc wr hg12 (hrow.below hb))
      have NX := hide (fun (v2 : Value) (w2 : World) (h1 : Own w2 wr.heap.size 3 v2 g) (h2 : Below wr.heap.size wr w2) => ci_next ho hrl hgd hd hb hB hgb.2 hgb.1 hx h1 h2)
      have FR := hide (fun (v2 : Value) (w2 : World) (h2 : Below wr.heap.size wr w2) => own_read ruleV_len (ho.below h2) hx' 1 _ rfl)
      rw [hll] at NX
      clear ho hrl hgd hd hb hB hgm hgc hrow hx hx' hll
      go_wp2_with (fail)
      refine IN.out.mono ?_
      rintro e w2 ⟨v2, rfl, ho2, hb2⟩
      obtain ⟨a2, c2, hv2, _, _⟩ := ho2.row
      subst hv2
      obtain ⟨r2, f2⟩ := FR.out (.slice a2 g.length c2) w2 hb2
      have HN2 := hide (NX.out _ w2 ho2 hb2)
      clear ho2 hb2 NX FR IN r1 f1
      go_wp2
      go_roundw
      case rel => exact ⟨k + 1, by omega, by go_num, HN2.out⟩
      case measure => simp [intOf]; omega
    · have hlz : ¬ (k : Int) < n := by omega
      have hkn : k = n := by omega
      subst hkn
      go_wp2
      go_ret
      obtain ⟨l', ho, hrl, hgd, hd, hb, hB⟩ := HC.out
      have hll : l'.length = k := by rw [← rulesL_len l', hrl, rulesL_len, HN.out]
      rw [List.take_of_length_le (by omega)] at hgd
      refine ⟨_, rfl, l', w1.heap.size, ?_, hrl, hgd, HB1.out.size, hb⟩
      first | exact ho | (have hkl := HN.out; rw [hkl] at ho; exact ho)
end Go.Proofs.YtidnjnhmkhekeaaDoor.Keeper
