/-
  The walk's steps where a whole bank is loaded out of, or stored into, a greater block.
-/
import Derived.Test.YtjkcplpmhjnahaaGreatDoorPack1
namespace Go.Proofs.YtjkcplpmhjnahaaGreatDoor.Run
open Go.ChangeShapes Go.WideShapes Go.ChangeAt Go.RowKit
open Go.Proofs.YtjkcplpmhjnahaaGreatDoor.M Go.Proofs.YtjkcplpmhjnahaaGreatDoor.Bank
set_option linter.unusedVariables false

theorem load_mid {w : World} {g off : Nat} {cs : Array Value} (h : ∀ (j : Nat) v, cs[j]? = some v → w.cell? ⟨g, off + j, none⟩ = some v) (hs : cs.size = 8) : (loadVar 30 ⟨g, off, none⟩).run Tryz.prog w = .ok (.agg cs) w := by
  have hl : (loadCells ⟨g, off, none⟩ cs.toList.length).run Tryz.prog w = .ok cs.toList.toArray w :=
    run_loadCells_list w ⟨g, off, none⟩ cs.toList (fun j v hv => by
      rw [add_none]
      exact h j v (by simpa using hv))
  have hi := info_bank
  cases hq : Tryz.prog.info? 30 with
  | none => rw [hq] at hi; cases hi
  | some i =>
    have hz : i.size = cs.size := by rw [hq] at hi; rw [hs]; exact Option.some.inj hi
    have hagg : (isAgg 30).run Tryz.prog w = .ok true w := Tryz.isAgg30 w
    simp only [Array.length_toList, Array.toArray_toList] at hl
    simp [loadVar, Sem.run_bind, hagg, sizeOf, typeInfo, hq, hz, hl]
theorem wpl_loadMid {w : World} {ops : Array Oper} {rest : List Oper} {o : Oper} {a : Act} {Q : Exit → Act → World → Prop} (p : Nat) (hw : Region.wanted o (yielded ops a.tmps) = true) (ho : o.op = .load 30 (.tmp p)) (b off : Nat)
    (hx : a.eval (.tmp p) = .pointer (some ⟨b, off, none⟩)) (cs : Array Value) (hc : ∀ (j : Nat) v, cs[j]? = some v → w.cell? ⟨b, off + j, none⟩ = some v) (hs : cs.size = 8) (h : wpList Tryz.prog ops Q rest (a.put o.dst (.agg cs)) w) : wpList Tryz.prog ops Q (o :: rest) a w :=
  wpList_step fun K hK => by
    simp only [hw, if_true]
    unfold Oper.wp execOp
    simp only [ho, hx, Instr.loadAt, Instr.sureAddr, Sem.run_bind, Sem.run_pure, Result.andThen_ok, load_mid hc hs]
    exact hK _ _ h
/-- Cells written one behind the other. -/
def setFrom : Array Value → Nat → List Value → Array Value
  | cur, _, [] => cur
  | cur, k, v :: r => setFrom (cur.setIfInBounds k v) (k + 1) r
theorem setRow_self {w : World} {g : Nat} {cur : Array Value} {T : TypeId} {fr : Nat × Nat} (hg : w.heap[g]? = some (.cells cur T fr)) : w.setRow g cur = w := by
  have hlt : g < w.heap.size := (Array.getElem?_eq_some_iff.1 hg).1
  have hv : w.heap[g] = .cells cur T fr := (Array.getElem?_eq_some_iff.1 hg).2
  unfold World.setRow
  cases w with
  | mk heap tape drawn os output =>
    congr 1
    apply Array.ext
    · simp
    · intro k h1 h2
      simp only [Array.getElem_modify]
      split
      · rename_i hk; subst hk; simp at hv; simp [hv]
      · rfl
theorem store_mid (P : Program) (g off : Nat) (t : TypeId) : ∀ (vs : List Value) (i : Nat) (cur : Array Value) (w : World), w.heap[g]? = some (.cells cur t) → off + i + vs.length ≤ cur.size → (∀ v ∈ vs, v.oneCell' = true) →
    (storeCells ⟨g, off, none⟩ vs i).run P w = .ok () (w.setRow g (setFrom cur (off + i) vs))
  | [], i, cur, w, hg, hl, _ => by
    rw [setFrom, setRow_self hg]
    rfl
  | v :: rest, i, cur, w, hg, hl, h1 => by
    have hi : off + i < cur.size := by simp at hl; omega
    have hcell : w.cell? ⟨g, off + i, none⟩ = some cur[off + i] := by simp [World.cell?, hg, hi]
    have hfro : w.frozen? ⟨g, off + i, none⟩ = false := by simp [World.frozen?, hg]
    have hst : (store ((⟨g, off, none⟩ : Addr).add i) v).run P w = .ok () (w.setRow g (cur.setIfInBounds (off + i) v)) := by
      rw [add_none, run_store P w _ v _ (h1 v (by simp)), hcell]
      simp [hfro, setCell_eq_setRow w g (off + i) cur t (0, 0) v hg]
    have ih := store_mid P g off t rest (i + 1) (cur.setIfInBounds (off + i) v) (w.setRow g (cur.setIfInBounds (off + i) v)) (setRow_heap w g cur _ t _ hg) (by simp at hl ⊢; omega) (fun x hx => h1 x (by simp [hx]))
    simp only [storeCells, Sem.run_bind, hst, Result.andThen_ok, ih, setRow_setRow]
    rfl
theorem wpl_storeMid {w : World} {ops : Array Oper} {rest : List Oper} {o : Oper} {a : Act} {Q : Exit → Act → World → Prop} (p q : Nat) (hw : Region.wanted o (yielded ops a.tmps) = true) (ho : o.op = .store 30 (.tmp p) (.tmp q)) (b off : Nat)
    (hx : a.eval (.tmp p) = .pointer (some ⟨b, off, none⟩)) (cur d : Array Value) (T : TypeId) (hv : a.eval (.tmp q) = .agg d) (hg : w.heap[b]? = some (.cells cur T)) (hs : d.size = 8) (hz : off + 8 ≤ cur.size) (h1 : d.all (·.oneCell') = true)
    (h : wpList Tryz.prog ops Q rest (a.put o.dst undef) (w.setRow b (setFrom cur off d.toList))) : wpList Tryz.prog ops Q (o :: rest) a w :=
  wpList_step fun K hK => by
    have hst : (storeVar 30 ⟨b, off, none⟩ (.agg d)).run Tryz.prog w = .ok () (w.setRow b (setFrom cur off d.toList)) := by
      have := store_mid Tryz.prog b off T d.toList 0 cur w hg (by rw [Array.length_toList, hs]; omega) (fun v hv => (Array.all_eq_true_iff_forall_mem.1 h1) v (by simpa using hv))
      have hi := info_bank
      cases hq : Tryz.prog.info? 30 with
      | none => rw [hq] at hi; cases hi
      | some i =>
        have hz : d.size = i.size := by rw [hq] at hi; rw [hs]; exact (Option.some.inj hi).symm
        simp only [Nat.add_zero] at this
        simp [storeVar, sizeOf, typeInfo, hq, Value.cells, hz, this]
    simp only [hw, if_true]
    unfold Oper.wp execOp
    simp only [ho, hx, hv, Instr.storeAt, Instr.sureAddr, Sem.run_bind, Sem.run_pure, Result.andThen_ok, hst]
    exact hK _ _ h
end Go.Proofs.YtjkcplpmhjnahaaGreatDoor.Run
