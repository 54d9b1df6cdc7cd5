/-
  Two objects of package nonce and a row of the caller's own, side by side: what one call changes is of one of them alone; how numbers are issued, one behind the other.
-/
import Derived.Test.YtidnjnhmkhekeaaDoorQNonce1
namespace Go.Proofs.YtidnjnhmkhekeaaDoor.Nonce
open Go.ChangeShapes Go.WideShapes Go.ChangeAt Go.RowKit
open Go.Proofs.YtidnjnhmkhekeaaDoor.M
set_option linter.unusedVariables false

/-- What is said of Use: a number that is not open, and one that is. -/
def UseNo : Prop := ∀ (p : Value) (S : Nat → Prop) (last many : Int) (xs : List Int) (x : Int) (w : World) (B : Nat), Non w B p S last many xs → xs.length ≤ 30 → x ∉ xs →
  Calls Tryd.prog 35 #[p, .int .i64 x] w fun e w' => e = .returned (.iface 77 (.int .i64 5)) ∧ Below w.heap.size w w'
def UseOk : Prop := ∀ (p : Value) (S : Nat → Prop) (last many : Int) (xs : List Int) (x : Int) (w : World) (B : Nat), Non w B p S last many xs → xs.length ≤ 30 → x ∈ xs → B ≤ w.heap.size →
  Calls Tryd.prog 35 #[p, .int .i64 x] w fun e w' => ∃ S', e = .returned .nilIface ∧ Non w' B p S' last many (xs.erase x) ∧ Only S w w' ∧ (∀ k, S' k → S k ∨ w.heap.size ≤ k)

def vf (v : Value) (k : Nat) : Prop := v.ownBlock = some k
def Apart (S T : Nat → Prop) : Prop := ∀ k, S k → ¬ T k
structure Tri (w0 : World) (B : Nat) (p q v : Value) (Sn Sm : Nat → Prop) (a i : Int) (xs : List Int) (b j : Int) (zs ls : List Int) (W : World) : Prop where
  n : Non W B p Sn a i xs
  m : Non W B q Sm b j zs
  l : Own W B 3 v ls
  nm : Apart Sn Sm
  ln : Apart (vf v) Sn
  lm : Apart (vf v) Sm
  lo : Below B w0 W
  hb : B ≤ W.heap.size
section
variable {w0 W W' : World} {B : Nat} {p q v : Value} {Sn Sm S' : Nat → Prop} {a i b j a' i' : Int} {xs zs ls xs' : List Int}
theorem Tri.below (h : Tri w0 B p q v Sn Sm a i xs b j zs ls W) (hb : Below W.heap.size W W') : Tri w0 B p q v Sn Sm a i xs b j zs ls W' :=
  ⟨h.n.below hb, h.m.below hb, h.l.only (S := fun _ => False) (Only.of_below hb) (fun _ _ hf => hf), h.nm, h.ln, h.lm, h.lo.trans (hb.mono h.hb), Nat.le_trans h.hb hb.size⟩
theorem Tri.stepN (h : Tri w0 B p q v Sn Sm a i xs b j zs ls W) (hn : Non W' B p S' a' i' xs') (ho : Only Sn W W') (hf : ∀ k, S' k → Sn k ∨ W.heap.size ≤ k) : Tri w0 B p q v S' Sm a' i' xs' b j zs ls W' := by
  refine ⟨hn, h.m.only ho (fun k hk hs => h.nm k hs hk), h.l.only ho (fun k hk => h.ln k hk), ?_, ?_, h.lm, h.lo.trans (ho.below h.hb (fun k hk => (h.n.has k hk).1)), Nat.le_trans h.hb ho.size⟩
  · intro k hk hm
    rcases hf k hk with h1 | h1
    · exact h.nm k h1 hm
    · have := (h.m.has k hm).2; omega
  · intro k hk hs
    rcases hf k hs with h1 | h1
    · exact h.ln k hk h1
    · have := h.l.lt k hk; omega
theorem Tri.stepM (h : Tri w0 B p q v Sn Sm a i xs b j zs ls W) (hn : Non W' B q S' a' i' xs') (ho : Only Sm W W') (hf : ∀ k, S' k → Sm k ∨ W.heap.size ≤ k) : Tri w0 B p q v Sn S' a i xs a' i' xs' ls W' := by
  refine ⟨h.n.only ho (fun k hk hs => h.nm k hk hs), hn, h.l.only ho (fun k hk => h.lm k hk), ?_, h.ln, ?_, h.lo.trans (ho.below h.hb (fun k hk => (h.m.has k hk).1)), Nat.le_trans h.hb ho.size⟩
  · intro k hk hm
    rcases hf k hm with h1 | h1
    · exact h.nm k hk h1
    · have := (h.n.has k hk).2; omega
  · intro k hk hs
    rcases hf k hs with h1 | h1
    · exact h.lm k hk h1
    · have := h.l.lt k hk; omega
theorem Tri.stepL {v' : Value} {ls' : List Int} (h : Tri w0 B p q v Sn Sm a i xs b j zs ls W) (hl : Own W' B 3 v' ls') (hg : W.grownBy W' v.ownBlock) (hat : v'.ownBlock = v.ownBlock ∨ v'.ownBlock = some W.heap.size) : Tri w0 B p q v' Sn Sm a i xs b j zs ls' W' := by
  have ho : Only (vf v) W W' := (Only.refl (vf v) W).grown hg (fun k hk => Or.inl hk)
  refine ⟨h.n.only ho (fun k hk hs => h.ln k hs hk), h.m.only ho (fun k hk hs => h.lm k hs hk), hl, h.nm, ?_, ?_, h.lo.trans (ho.below h.hb (fun k hk => h.l.block k hk)), Nat.le_trans h.hb ho.size⟩
  · intro k hk hs
    rcases hat with h1 | h1
    · exact h.ln k (h1.symm.trans hk) hs
    · have := (h.n.has k hs).2
      have e : some W.heap.size = some k := h1.symm.trans hk
      cases e
      omega
  · intro k hk hs
    rcases hat with h1 | h1
    · exact h.lm k (h1.symm.trans hk) hs
    · have := (h.m.has k hs).2
      have e : some W.heap.size = some k := h1.symm.trans hk
      cases e
      omega
end

/-- The last number, and all, of some that were issued one behind the other. -/
def lastN (s : Int) : Nat → Int
  | 0 => s
  | j + 1 => stp 7919 (lastN s j) j
def listN (s : Int) : Nat → List Int
  | 0 => []
  | j + 1 => listN s j ++ [lastN s (j + 1)]
theorem listN_len (s : Int) : ∀ j, (listN s j).length = j
  | 0 => rfl
  | j + 1 => by rw [listN, List.length_append, listN_len s j]; rfl
/-- One that is open, used again and again. -/
def usedN (x : Int) : Nat → List Int → List Int
  | 0, xs => xs
  | j + 1, xs => (usedN x j xs).erase x
theorem usedN_count (x : Int) (xs : List Int) : ∀ j, j ≤ xs.count x → (usedN x j xs).count x = xs.count x - j ∧ (usedN x j xs).length = xs.length - j
  | 0, _ => ⟨rfl, rfl⟩
  | j + 1, h => by
    obtain ⟨h1, h2⟩ := usedN_count x xs j (by omega)
    have hm : x ∈ usedN x j xs := List.count_pos_iff.1 (by omega)
    rw [usedN, List.count_erase_self, List.length_erase_of_mem hm, h1, h2]
    omega
theorem usedN_in {x : Int} {xs : List Int} {j : Nat} (h : j < xs.count x) : x ∈ usedN x j xs := List.count_pos_iff.1 (by rw [(usedN_count x xs j (by omega)).1]; omega)
theorem usedN_out {x : Int} {xs : List Int} : x ∉ usedN x (xs.count x) xs := fun h => by
  have := List.count_pos_iff.2 h
  rw [(usedN_count x xs _ (Nat.le_refl _)).1] at this
  omega
theorem usedN_le {x : Int} {xs : List Int} {j : Nat} (h : j ≤ xs.count x) : (usedN x j xs).length ≤ xs.length := by rw [(usedN_count x xs j h).2]; omega
theorem count_take {x y : Int} {xs : List Int} {k : Nat} (h : xs[k]? = some y) : (xs.take (k + 1)).count x = (xs.take k).count x + if y = x then 1 else 0 := by
  rw [take_one h, List.count_append, List.count_singleton]
  by_cases e : y = x <;> simp [e]
theorem erase_drop {xs : List Int} {k : Nat} {y : Int} (h : xs[k]? = some y) : (xs.drop k).erase y = xs.drop (k + 1) := by
  obtain ⟨h1, h2⟩ := List.getElem?_eq_some_iff.1 h
  rw [List.drop_eq_getElem_cons h1, h2, List.erase_cons_head]
theorem mem_drop {xs : List Int} {k : Nat} {y : Int} (h : xs[k]? = some y) : y ∈ xs.drop k := by
  obtain ⟨h1, h2⟩ := List.getElem?_eq_some_iff.1 h
  rw [List.drop_eq_getElem_cons h1, h2]
  exact List.mem_cons_self
end Go.Proofs.YtidnjnhmkhekeaaDoor.Nonce
