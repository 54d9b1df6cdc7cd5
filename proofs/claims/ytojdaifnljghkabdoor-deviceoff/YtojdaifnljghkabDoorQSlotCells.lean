/-
  Plain facts on a block of seventeen cells, two slots and which runs, over any program: what lies in a cell, what a store makes of it.
-/
import Derived.Test.YtojdaifnljghkabDoorQSlotLaw
import Derived.Test.YtojdaifnljghkabDoorQRec
import Derived.Deep.QuietTactic
import Derived.BigQuiet
namespace Go.Proofs.YtojdaifnljghkabDoor.SlotRef
open Go.ChangeShapes Go.WideShapes Go.ChangeAt Go.RowKit
open Go.Proofs.YtojdaifnljghkabDoor.M
set_option linter.unusedVariables false

/-- The cells of two slots, and which runs. -/
def stC (t : St) : Array Value :=
  #[.string t.x.s.nm, .int .i64 t.x.s.v, .string t.x.s.cd, .int .i64 t.x.s.p, .int .i64 t.x.s.a, .bool t.x.full, .int .i64 t.x.tries, .bool t.x.good,
    .string t.y.s.nm, .int .i64 t.y.s.v, .string t.y.s.cd, .int .i64 t.y.s.p, .int .i64 t.y.s.a, .bool t.y.full, .int .i64 t.y.tries, .bool t.y.good, .int .i64 (idx t.r)]

theorem quiet_below (w : World) : ∀ n, Below w.heap.size w (w.drewN n)
  | 0 => Below.refl _ _
  | n + 1 => Below.drew (quiet_below w n)
theorem heap_quiet (w : World) : ∀ n, (w.drewN n).heap = w.heap
  | 0 => rfl
  | n + 1 => heap_quiet w n

theorem at_cell {w : World} {g : Nat} {t : St} {T : TypeId} (h : w.heap[g]? = some (.cells (stC t) T)) (i : Nat) : w.cell? ⟨g, i, none⟩ = (stC t)[i]? := cell_of_row w g i _ _ _ h
theorem at_free {w : World} {g : Nat} {c : Array Value} {T : TypeId} (h : w.heap[g]? = some (.cells c T)) (i : Nat) : w.frozen? ⟨g, i, none⟩ = false := frozen_of_row w g i _ _ h

theorem cells8 {w : World} {g : Nat} {t : St} {T : TypeId} (h : w.heap[g]? = some (.cells (stC t) T)) :
    (w.cell? ⟨g, 0, none⟩ = some (.string t.x.s.nm) ∧ w.cell? ⟨g, 1, none⟩ = some (.int .i64 t.x.s.v) ∧ w.cell? ⟨g, 2, none⟩ = some (.string t.x.s.cd) ∧ w.cell? ⟨g, 3, none⟩ = some (.int .i64 t.x.s.p) ∧ w.cell? ⟨g, 4, none⟩ = some (.int .i64 t.x.s.a) ∧ w.cell? ⟨g, 5, none⟩ = some (.bool t.x.full) ∧ w.cell? ⟨g, 6, none⟩ = some (.int .i64 t.x.tries) ∧ w.cell? ⟨g, 7, none⟩ = some (.bool t.x.good))
    ∧ (w.cell? ⟨g, 8, none⟩ = some (.string t.y.s.nm) ∧ w.cell? ⟨g, 9, none⟩ = some (.int .i64 t.y.s.v) ∧ w.cell? ⟨g, 10, none⟩ = some (.string t.y.s.cd) ∧ w.cell? ⟨g, 11, none⟩ = some (.int .i64 t.y.s.p) ∧ w.cell? ⟨g, 12, none⟩ = some (.int .i64 t.y.s.a) ∧ w.cell? ⟨g, 13, none⟩ = some (.bool t.y.full) ∧ w.cell? ⟨g, 14, none⟩ = some (.int .i64 t.y.tries) ∧ w.cell? ⟨g, 15, none⟩ = some (.bool t.y.good))
    ∧ w.cell? ⟨g, 16, none⟩ = some (.int .i64 (idx t.r)) := by
  refine ⟨⟨?_, ?_, ?_, ?_, ?_, ?_, ?_, ?_⟩, ⟨?_, ?_, ?_, ?_, ?_, ?_, ?_, ?_⟩, ?_⟩ <;> rw [at_cell h] <;> rfl

def objSet (i : Nat) (v : Value) : Obj → Obj
  | .cells c T fr => .cells (c.setIfInBounds i v) T fr
  | o => o
theorem heap_set {W : World} {g i : Nat} {v : Value} {c : Array Value} {T : TypeId} {fr : Nat × Nat} (h : W.heap[g]? = some (.cells c T fr)) : (W.setCell ⟨g, i, none⟩ v).heap[g]? = some (.cells (c.setIfInBounds i v) T fr) := by
  rw [setCell_eq_setRow W g i _ _ _ v h]
  exact setRow_heap _ _ _ _ _ _ h
theorem blk2 (w : World) (o o' : Obj) : ((w.alloc o).alloc o').heap[w.heap.size + 1]? = some o' := by
  have := blk_new (w.alloc o) o'
  simpa using this
theorem cellsS {w : World} {b : Nat} {x0 x1 x2 x3 x4 : Value} {t : TypeId} {fr : Nat × Nat} (h : w.heap[b]? = some (.cells #[x0, x1, x2, x3, x4] t fr)) :
    w.cell? ⟨b, 0, none⟩ = some x0 ∧ w.cell? ⟨b, 1, none⟩ = some x1 ∧ w.cell? ⟨b, 2, none⟩ = some x2 ∧ w.cell? ⟨b, 3, none⟩ = some x3 ∧ w.cell? ⟨b, 4, none⟩ = some x4 := by
  refine ⟨?_, ?_, ?_, ?_, ?_⟩ <;> rw [cell_of_row w b _ _ t fr h] <;> rfl

section
variable {W : World} {g : Nat} {T : TypeId} {fr : Nat × Nat} {a0 a1 a2 a3 a4 a5 a6 a7 a8 a9 a10 a11 a12 a13 a14 a15 a16 v : Value}
theorem hs0 (h : W.heap[g]? = some (.cells #[a0, a1, a2, a3, a4, a5, a6, a7, a8, a9, a10, a11, a12, a13, a14, a15, a16] T fr)) : (W.setCell ⟨g, 0, none⟩ v).heap[g]? = some (.cells #[v, a1, a2, a3, a4, a5, a6, a7, a8, a9, a10, a11, a12, a13, a14, a15, a16] T fr) := (heap_set h).trans rfl
theorem hs1 (h : W.heap[g]? = some (.cells #[a0, a1, a2, a3, a4, a5, a6, a7, a8, a9, a10, a11, a12, a13, a14, a15, a16] T fr)) : (W.setCell ⟨g, 1, none⟩ v).heap[g]? = some (.cells #[a0, v, a2, a3, a4, a5, a6, a7, a8, a9, a10, a11, a12, a13, a14, a15, a16] T fr) := (heap_set h).trans rfl
theorem hs2 (h : W.heap[g]? = some (.cells #[a0, a1, a2, a3, a4, a5, a6, a7, a8, a9, a10, a11, a12, a13, a14, a15, a16] T fr)) : (W.setCell ⟨g, 2, none⟩ v).heap[g]? = some (.cells #[a0, a1, v, a3, a4, a5, a6, a7, a8, a9, a10, a11, a12, a13, a14, a15, a16] T fr) := (heap_set h).trans rfl
theorem hs3 (h : W.heap[g]? = some (.cells #[a0, a1, a2, a3, a4, a5, a6, a7, a8, a9, a10, a11, a12, a13, a14, a15, a16] T fr)) : (W.setCell ⟨g, 3, none⟩ v).heap[g]? = some (.cells #[a0, a1, a2, v, a4, a5, a6, a7, a8, a9, a10, a11, a12, a13, a14, a15, a16] T fr) := (heap_set h).trans rfl
theorem hs4 (h : W.heap[g]? = some (.cells #[a0, a1, a2, a3, a4, a5, a6, a7, a8, a9, a10, a11, a12, a13, a14, a15, a16] T fr)) : (W.setCell ⟨g, 4, none⟩ v).heap[g]? = some (.cells #[a0, a1, a2, a3, v, a5, a6, a7, a8, a9, a10, a11, a12, a13, a14, a15, a16] T fr) := (heap_set h).trans rfl
theorem hs5 (h : W.heap[g]? = some (.cells #[a0, a1, a2, a3, a4, a5, a6, a7, a8, a9, a10, a11, a12, a13, a14, a15, a16] T fr)) : (W.setCell ⟨g, 5, none⟩ v).heap[g]? = some (.cells #[a0, a1, a2, a3, a4, v, a6, a7, a8, a9, a10, a11, a12, a13, a14, a15, a16] T fr) := (heap_set h).trans rfl
theorem hs6 (h : W.heap[g]? = some (.cells #[a0, a1, a2, a3, a4, a5, a6, a7, a8, a9, a10, a11, a12, a13, a14, a15, a16] T fr)) : (W.setCell ⟨g, 6, none⟩ v).heap[g]? = some (.cells #[a0, a1, a2, a3, a4, a5, v, a7, a8, a9, a10, a11, a12, a13, a14, a15, a16] T fr) := (heap_set h).trans rfl
theorem hs7 (h : W.heap[g]? = some (.cells #[a0, a1, a2, a3, a4, a5, a6, a7, a8, a9, a10, a11, a12, a13, a14, a15, a16] T fr)) : (W.setCell ⟨g, 7, none⟩ v).heap[g]? = some (.cells #[a0, a1, a2, a3, a4, a5, a6, v, a8, a9, a10, a11, a12, a13, a14, a15, a16] T fr) := (heap_set h).trans rfl
theorem hs8 (h : W.heap[g]? = some (.cells #[a0, a1, a2, a3, a4, a5, a6, a7, a8, a9, a10, a11, a12, a13, a14, a15, a16] T fr)) : (W.setCell ⟨g, 8, none⟩ v).heap[g]? = some (.cells #[a0, a1, a2, a3, a4, a5, a6, a7, v, a9, a10, a11, a12, a13, a14, a15, a16] T fr) := (heap_set h).trans rfl
theorem hs9 (h : W.heap[g]? = some (.cells #[a0, a1, a2, a3, a4, a5, a6, a7, a8, a9, a10, a11, a12, a13, a14, a15, a16] T fr)) : (W.setCell ⟨g, 9, none⟩ v).heap[g]? = some (.cells #[a0, a1, a2, a3, a4, a5, a6, a7, a8, v, a10, a11, a12, a13, a14, a15, a16] T fr) := (heap_set h).trans rfl
theorem hs10 (h : W.heap[g]? = some (.cells #[a0, a1, a2, a3, a4, a5, a6, a7, a8, a9, a10, a11, a12, a13, a14, a15, a16] T fr)) : (W.setCell ⟨g, 10, none⟩ v).heap[g]? = some (.cells #[a0, a1, a2, a3, a4, a5, a6, a7, a8, a9, v, a11, a12, a13, a14, a15, a16] T fr) := (heap_set h).trans rfl
theorem hs11 (h : W.heap[g]? = some (.cells #[a0, a1, a2, a3, a4, a5, a6, a7, a8, a9, a10, a11, a12, a13, a14, a15, a16] T fr)) : (W.setCell ⟨g, 11, none⟩ v).heap[g]? = some (.cells #[a0, a1, a2, a3, a4, a5, a6, a7, a8, a9, a10, v, a12, a13, a14, a15, a16] T fr) := (heap_set h).trans rfl
theorem hs12 (h : W.heap[g]? = some (.cells #[a0, a1, a2, a3, a4, a5, a6, a7, a8, a9, a10, a11, a12, a13, a14, a15, a16] T fr)) : (W.setCell ⟨g, 12, none⟩ v).heap[g]? = some (.cells #[a0, a1, a2, a3, a4, a5, a6, a7, a8, a9, a10, a11, v, a13, a14, a15, a16] T fr) := (heap_set h).trans rfl
theorem hs13 (h : W.heap[g]? = some (.cells #[a0, a1, a2, a3, a4, a5, a6, a7, a8, a9, a10, a11, a12, a13, a14, a15, a16] T fr)) : (W.setCell ⟨g, 13, none⟩ v).heap[g]? = some (.cells #[a0, a1, a2, a3, a4, a5, a6, a7, a8, a9, a10, a11, a12, v, a14, a15, a16] T fr) := (heap_set h).trans rfl
theorem hs14 (h : W.heap[g]? = some (.cells #[a0, a1, a2, a3, a4, a5, a6, a7, a8, a9, a10, a11, a12, a13, a14, a15, a16] T fr)) : (W.setCell ⟨g, 14, none⟩ v).heap[g]? = some (.cells #[a0, a1, a2, a3, a4, a5, a6, a7, a8, a9, a10, a11, a12, a13, v, a15, a16] T fr) := (heap_set h).trans rfl
theorem hs15 (h : W.heap[g]? = some (.cells #[a0, a1, a2, a3, a4, a5, a6, a7, a8, a9, a10, a11, a12, a13, a14, a15, a16] T fr)) : (W.setCell ⟨g, 15, none⟩ v).heap[g]? = some (.cells #[a0, a1, a2, a3, a4, a5, a6, a7, a8, a9, a10, a11, a12, a13, a14, v, a16] T fr) := (heap_set h).trans rfl
theorem hs16 (h : W.heap[g]? = some (.cells #[a0, a1, a2, a3, a4, a5, a6, a7, a8, a9, a10, a11, a12, a13, a14, a15, a16] T fr)) : (W.setCell ⟨g, 16, none⟩ v).heap[g]? = some (.cells #[a0, a1, a2, a3, a4, a5, a6, a7, a8, a9, a10, a11, a12, a13, a14, a15, v] T fr) := (heap_set h).trans rfl
end
theorem only8 {S : Nat → Prop} {w W : World} {g : Nat} {i0 i1 i2 i3 i4 i5 i6 i7 : Nat} {v0 v1 v2 v3 v4 v5 v6 v7 : Value} (hp : S g) (h : Only S w W) :
    Only S w ((((((((W.setCell ⟨g, i0, none⟩ v0).setCell ⟨g, i1, none⟩ v1).setCell ⟨g, i2, none⟩ v2).setCell ⟨g, i3, none⟩ v3).setCell ⟨g, i4, none⟩ v4).setCell ⟨g, i5, none⟩ v5).setCell ⟨g, i6, none⟩ v6).setCell ⟨g, i7, none⟩ v7) :=
  (((((((h.setCell (p := ⟨g, i0, none⟩) hp v0).setCell (p := ⟨g, i1, none⟩) hp v1).setCell (p := ⟨g, i2, none⟩) hp v2).setCell (p := ⟨g, i3, none⟩) hp v3).setCell (p := ⟨g, i4, none⟩) hp v4).setCell (p := ⟨g, i5, none⟩) hp v5).setCell (p := ⟨g, i6, none⟩) hp v6).setCell (p := ⟨g, i7, none⟩) hp v7
/-- All cells may be written. -/
theorem frees {w : World} {g : Nat} {t : St} {T : TypeId} (h : w.heap[g]? = some (.cells (stC t) T)) :
    (w.frozen? ⟨g, 0, none⟩ = false ∧ w.frozen? ⟨g, 1, none⟩ = false ∧ w.frozen? ⟨g, 2, none⟩ = false ∧ w.frozen? ⟨g, 3, none⟩ = false ∧ w.frozen? ⟨g, 4, none⟩ = false ∧ w.frozen? ⟨g, 5, none⟩ = false ∧ w.frozen? ⟨g, 6, none⟩ = false ∧ w.frozen? ⟨g, 7, none⟩ = false)
    ∧ (w.frozen? ⟨g, 8, none⟩ = false ∧ w.frozen? ⟨g, 9, none⟩ = false ∧ w.frozen? ⟨g, 10, none⟩ = false ∧ w.frozen? ⟨g, 11, none⟩ = false ∧ w.frozen? ⟨g, 12, none⟩ = false ∧ w.frozen? ⟨g, 13, none⟩ = false ∧ w.frozen? ⟨g, 14, none⟩ = false ∧ w.frozen? ⟨g, 15, none⟩ = false)
    ∧ w.frozen? ⟨g, 16, none⟩ = false :=
  ⟨⟨at_free h _, at_free h _, at_free h _, at_free h _, at_free h _, at_free h _, at_free h _, at_free h _⟩, ⟨at_free h _, at_free h _, at_free h _, at_free h _, at_free h _, at_free h _, at_free h _, at_free h _⟩, at_free h _⟩

theorem drew_heap (w : World) : w.drew.heap = w.heap := rfl
theorem drew_only (S : Nat → Prop) (w W : World) : Only S w W.drew = Only S w W := rfl

theorem info_signed : (Tryd.prog.info? 27).map (·.size) = some 5 := by kernel_rfl
theorem load_signed {w : World} {b : Nat} {c : Array Value} {fr : Nat × Nat} (h : w.heap[b]? = some (.cells c 27 fr)) (hs : c.size = 5) : (loadVar 27 ⟨b, 0, none⟩).run Tryd.prog w = .ok (.agg c) w :=
  run_loadVar_row w b _ _ c fr _ h Tryd.underlying27 rfl (by rw [info_signed, hs])
theorem res_one {fn : Func} {p : Tmp} {ty : TypeId} (h : fn.results = #[.cell p ty]) (tmps : Array Value) (P : Program) (w : World) :
    (results fn tmps).run P w = ((asAddr (tmps.getD p undef)).run P w).andThen fun a w1 => (loadVar ty a).run P w1 := by
  simp only [results, h]
  simp [Sem.run_bind, Result.andThen]
theorem results_sg {fn : Func} {p : Tmp} (h : fn.results = #[.cell p 27]) (tmps : Array Value) (w : World) (b : Nat) (c : Array Value) (hp : tmps.getD p undef = .pointer (some ⟨b, 0, none⟩))
    (hg : w.heap[b]? = some (.cells c 27)) (hs : c.size = 5) : (results fn tmps).run Tryd.prog w = .ok (.agg c) w := by
  rw [res_one h, hp]
  simp [asAddr, load_signed hg hs, Result.andThen]
section
variable {W w : World} {R g i0 i1 i2 i3 i4 : Nat} {T : TypeId} {fr : Nat × Nat} {a0 a1 a2 a3 a4 v0 v1 v2 v3 v4 : Value} {S : Nat → Prop} {o : Option Obj}
theorem r5 (h : W.heap[R]? = some (.cells #[a0, a1, a2, a3, a4] T fr)) : (((((W.setCell ⟨R, 0, none⟩ v0).setCell ⟨R, 1, none⟩ v1).setCell ⟨R, 2, none⟩ v2).setCell ⟨R, 3, none⟩ v3).setCell ⟨R, 4, none⟩ v4).heap[R]? = some (.cells #[v0, v1, v2, v3, v4] T fr) :=
  (heap_set (i := 4) (heap_set (i := 3) (heap_set (i := 2) (heap_set (i := 1) (heap_set (i := 0) h))))).trans rfl
theorem other5 (hn : g ≠ R) (h : W.heap[g]? = o) : (((((W.setCell ⟨R, i0, none⟩ v0).setCell ⟨R, i1, none⟩ v1).setCell ⟨R, i2, none⟩ v2).setCell ⟨R, i3, none⟩ v3).setCell ⟨R, i4, none⟩ v4).heap[g]? = o := by
  rw [Below.heap_setCell _ _ _ _ hn, Below.heap_setCell _ _ _ _ hn, Below.heap_setCell _ _ _ _ hn, Below.heap_setCell _ _ _ _ hn, Below.heap_setCell _ _ _ _ hn]
  exact h
theorem new1 (hR : w.heap.size ≤ R) (h : Only S w W) : Only S w (W.setCell ⟨R, i0, none⟩ v0) :=
  h.trans (T := fun k => k = R) ⟨rfl, rfl, rfl, by simp [World.setCell], fun k _ hn => Below.heap_setCell _ _ _ _ hn⟩ (fun k hk e => by omega)
theorem new5 (hR : w.heap.size ≤ R) (h : Only S w W) : Only S w (((((W.setCell ⟨R, i0, none⟩ v0).setCell ⟨R, i1, none⟩ v1).setCell ⟨R, i2, none⟩ v2).setCell ⟨R, i3, none⟩ v3).setCell ⟨R, i4, none⟩ v4) :=
  new1 hR (new1 hR (new1 hR (new1 hR (new1 hR h))))
end
end Go.Proofs.YtojdaifnljghkabDoor.SlotRef
