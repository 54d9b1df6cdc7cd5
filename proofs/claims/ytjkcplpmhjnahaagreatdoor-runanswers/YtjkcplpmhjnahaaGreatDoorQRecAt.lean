/-
  Plain laws, over any program, on rows of records of the call's own as things that lie apart; append of one record, with the block that the row lies in then.
-/
import Derived.Test.YtjkcplpmhjnahaaGreatDoorQRec
import Derived.Test.YtjkcplpmhjnahaaGreatDoorQSep
import Derived.Maps.AppendAt
namespace Go.Proofs.YtjkcplpmhjnahaaGreatDoor.M
open Go.RowKit Go.ChangeShapes Go.WideShapes Go.ChangeAt
set_option linter.unusedVariables false

section
variable {α : Type} {n : Nat} {cv : α → List Value} {w0 W W' : World} {B : Nat} {r : List (Thing B)} {T : TypeId} {v v' : Value} {xs xs' : List α}
theorem ownR_only {S : Nat → Prop} (h : OwnR n cv W B T v xs) (ho : Only S W W') (hn : ∀ k, v.ownBlock = some k → ¬ S k) : OwnR n cv W' B T v xs := by
  refine ⟨h.1, ?_⟩
  rcases h.2 with h2 | ⟨g, cap, cur, h1, h2, h3, h4⟩
  · exact Or.inl h2
  · exact Or.inr ⟨g, cap, cur, h1, h2, ho.heap h3 (hn g (by rw [h1]; rfl)), h4⟩
theorem ownR_lt (h : OwnR n cv W B T v xs) : ∀ k, v.ownBlock = some k → k < W.heap.size := by
  intro k hk
  rcases h.2 with ⟨h2, _⟩ | ⟨g, cap, cur, h1, _, h3, _⟩
  · rw [h2] at hk; cases hk
  · rw [h1] at hk
    cases hk
    exact blk_lt h3
/-- A row of records as a thing. -/
def rowI (n : Nat) (cv : α → List Value) (B : Nat) (T : TypeId) (v : Value) (xs : List α) : Thing B where
  F := fun k => v.ownBlock = some k
  P := fun W => OwnR n cv W B T v xs
  has := fun h k hk => ⟨h.block k hk, ownR_lt h k hk⟩
  st := fun h ho hn => ownR_only h ho hn
theorem Sep.grow (h : Sep w0 B (rowI n cv B T v xs :: r) W) (hn : OwnR n cv W' B T v' xs') (hg : W.grownBy W' v.ownBlock) (hat : v'.ownBlock = v.ownBlock ∨ v'.ownBlock = some W.heap.size) : Sep w0 B (rowI n cv B T v' xs' :: r) W' :=
  h.step (i' := rowI n cv B T v' xs') hn ((Only.refl (fun k => v.ownBlock = some k) W).grown hg (fun k hk => Or.inl hk)) (fun k hk => by
    have hk' : v'.ownBlock = some k := hk
    rcases hat with e | e
    · exact Or.inl (e.symm.trans hk')
    · rw [e] at hk'
      cases hk'
      exact Or.inr (Nat.le_refl _))
/-- A row that can be read, as a thing of one block. -/
def rrowI (n : Nat) (cv : α → List Value) (B : Nat) (a : Option Addr) (xs : List α) : Thing B where
  F := fun k => xs ≠ [] ∧ a.map (·.block) = some k
  P := fun W => RRow n cv W a xs ∧ (∀ k, xs ≠ [] ∧ a.map (·.block) = some k → B ≤ k ∧ k < W.heap.size)
  has := fun h k hk => h.2 k hk
  st := fun {W W' T} h ho hn => by
    refine ⟨?_, fun k hk => ⟨(h.2 k hk).1, Nat.lt_of_lt_of_le (h.2 k hk).2 ho.size⟩⟩
    rcases h.1 with h1 | ⟨b, off, ha, hc⟩
    · exact Or.inl h1
    · by_cases hx : xs = []
      · exact Or.inl hx
      · have hF : xs ≠ [] ∧ a.map (·.block) = some b := ⟨hx, by rw [ha]; rfl⟩
        have hb := (h.2 b hF).2
        have e := ho.2.2.2.2 b hb (hn b hF)
        refine Or.inr ⟨b, off, ha, fun k x hk j u hu => ?_⟩
        have := hc k x hk j u hu
        unfold World.cell? at this ⊢
        simp only [] at this ⊢
        rw [e]
        exact this
/-- 'x = append(x, y)' where x is a row of records of the call's own; where the row lies then. -/
theorem wpList_appRAt {P : Program} {w : World} {ops : Array Oper} {rest : List Oper} {o : Oper} {a : Act} {Q : Exit → Act → World → Prop} (hgd : o.guard = none) (s x : Operand) (t : TypeId)
    (ho : o.op = .call { callee := .builtin .append, args := #[s, x], argTypes := #[t, t] })
    (base : Nat) (e : TypeId) (z : Value) (bytes : Nat) (hinfo : (P.info? e).map (fun i => (i.zero, i.size, i.bytes)) = some (some z, n, bytes)) (hz : z.cells.size = n) (hn : 0 < n) (hby : bytes ≤ 1000000) (ht : P.underlying t = some (.slice e))
    (hl : ∀ x, (cv x).length = n) (v : Value) (xs : List α) (hs : a.eval s = v) (hown : OwnR n cv w base e v xs)
    (b : Nat) (y : α) (h1 : ∀ u ∈ cv y, u.oneCell' = true) (hx : a.eval x = .slice (some ⟨b, 0, none⟩) 1 1) (hcell : ∀ (j : Nat) (u : Value), (cv y)[j]? = some u → w.cell? ⟨b, j, none⟩ = some u)
    (hb : xs.length ≤ 1000000) (hbase : base ≤ w.heap.size)
    (h : ∀ v' w', OwnR n cv w' base e v' (xs ++ [y]) → w.grownBy w' v.ownBlock → (v'.ownBlock = v.ownBlock ∨ v'.ownBlock = some w.heap.size) → wpList P ops Q rest (a.put o.dst v') w') : wpList P ops Q (o :: rest) a w := by
  obtain ⟨i, hi, hz0, hz1, hz2⟩ := info_parts hinfo
  have hbb : (xs.length + 1) * bytes ≤ 140737488355328 := Nat.le_trans (Nat.mul_le_mul (Nat.succ_le_succ hb) hby) (by omega)
  refine wpList_append_own_at w hgd s x t ho base e i z n bytes ht hi hz0 hz1 hz2 hz hn v xs.length _ hs hown ⟨b, 0, none⟩ 1 1 (cv y) hx (by rw [hl, Nat.one_mul]) ?_ h1 (by unfold maxLen; omega) hbb hbase ?_
  · intro j u hj
    rw [add_none, Nat.zero_add]
    exact hcell j u hj
  · intro v' w' h2 h3 _ h4
    refine h v' w' ?_ h3 h4
    unfold OwnR
    rw [List.length_append, List.flatMap_append, List.flatMap_singleton]
    exact h2
/-- One cell of a row's record, written. -/
theorem flat_cell (hl : ∀ x, (cv x).length = n) {x x' : α} {j : Nat} {u : Value} (he : cv x' = (cv x).set j u) (hj : j < n) : ∀ {xs : List α} {k : Nat}, xs[k]? = some x → (xs.flatMap cv).set (k * n + j) u = (xs.set k x').flatMap cv
  | [], k, h => by simp at h
  | c :: t, 0, h => by
    simp at h
    subst h
    rw [List.set_cons_zero, List.flatMap_cons, List.flatMap_cons, Nat.zero_mul, Nat.zero_add, List.set_append_left _ _ (by rw [hl]; exact hj), he]
  | c :: t, k + 1, h => by
    have ih := flat_cell hl he hj (xs := t) (k := k) (by simpa using h)
    rw [List.set_cons_succ, List.flatMap_cons, List.flatMap_cons, ← ih, List.set_append_right _ _ (by rw [hl, Nat.succ_mul]; omega), hl]
    congr 2
    rw [Nat.succ_mul]
    omega
theorem own_cell (hl : ∀ x, (cv x).length = n) {g cap k j : Nat} {x x' : α} {u : Value} (h : OwnR n cv W B T (.slice (some ⟨g, 0, none⟩) xs.length cap) xs) (hk : xs[k]? = some x) (he : cv x' = (cv x).set j u) (hj : j < n) :
    OwnR n cv (W.setCell ⟨g, k * n + j, none⟩ u) B T (.slice (some ⟨g, 0, none⟩) xs.length cap) (xs.set k x') := by
  obtain ⟨h1, h2⟩ := h
  have hf := flat_cell hl he hj hk
  rcases h2 with ⟨h3, _⟩ | ⟨g', cap'', cur, h3, h4, h5, h6, h7, h8, h9⟩
  · cases h3
  · cases h3
    rw [setCell_eq_setRow W g _ _ _ _ _ h5]
    refine ⟨by rw [← hf, List.length_set, List.length_set]; exact h1, Or.inr ⟨g, cap, cur.setIfInBounds (k * n + j) u, by rw [List.length_set], h4, setRow_heap _ _ _ _ _ _ h5, by rw [List.length_set]; exact h6, h7, by simpa using h8, ?_⟩⟩
    rw [List.length_set, ← hf, ← h9, Array.toList_setIfInBounds, List.take_set]
theorem own_read (hl : ∀ x, (cv x).length = n) {g cap k : Nat} {x : α} (h : OwnR n cv W B T (.slice (some ⟨g, 0, none⟩) xs.length cap) xs) (hk : xs[k]? = some x) (j : Nat) (u : Value) (hu : (cv x)[j]? = some u) :
    W.cell? ⟨g, k * n + j, none⟩ = some u ∧ W.frozen? ⟨g, k * n + j, none⟩ = false := by
  obtain ⟨a, cap', hv, _, hr⟩ := h.row hl
  cases hv
  obtain ⟨b, off, e', hc⟩ := hr.at hk
  cases e'
  have := hc j u hu
  rw [Nat.zero_add] at this
  rcases h.2 with ⟨h3, _⟩ | ⟨g', cap'', cur, h3, h4, h5, _⟩
  · cases h3
  · cases h3
    exact ⟨this, by simp [World.frozen?, h5]⟩
theorem ownR_cap {a : Option Addr} {len cap : Nat} (h : OwnR n cv W B T (.slice a len cap) xs) : len = xs.length ∧ len ≤ cap ∧ (xs ≠ [] → ∃ g, a = some ⟨g, 0, none⟩) := by
  rcases h.2 with ⟨h3, h4⟩ | ⟨g', cap'', cur, h3, _, _, h6, _⟩
  · cases h3
    exact ⟨h4.symm, Nat.le_refl _, fun hx => absurd (List.length_eq_zero_iff.1 h4) hx⟩
  · cases h3
    exact ⟨rfl, h6, fun _ => ⟨g', rfl⟩⟩
end
end Go.Proofs.YtjkcplpmhjnahaaGreatDoor.M
