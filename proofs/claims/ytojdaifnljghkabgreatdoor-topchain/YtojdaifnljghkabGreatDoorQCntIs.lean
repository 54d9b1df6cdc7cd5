/-
  How package count's object lies in memory: a map behind a pointer, of the names alone that are above 0; what a store into the map makes of it.
-/
import Derived.Test.YtojdaifnljghkabGreatDoorPack1
import Derived.Maps.OwnSet
namespace Go.Proofs.YtojdaifnljghkabGreatDoor.Count
open Go.ChangeShapes Go.WideShapes Go.ChangeAt Go.RowKit Go.WideMaps
open Go.Proofs.YtojdaifnljghkabGreatDoor.M
set_option linter.unusedVariables false

/-- A map's block that reads as D. -/
def MapIs (W : World) (m : Nat) (D : DataW Unit) : Prop := W.ownsMap Tryz.prog 9 (plainElem Tryz.prog 3) m (Maps.size D) D
theorem mapIs_of {W : World} {m n : Nat} {D : DataW Unit} (h : W.ownsMap Tryz.prog 9 (plainElem Tryz.prog 3) m n D) : MapIs W m D := by
  obtain ⟨es, clock, hb, F, hs, hD⟩ := h
  refine ⟨es, clock, hb, F, ?_, hD⟩
  rw [hD]
  simp [Maps.size, length_sorted]
theorem MapIs.heap {W W' : World} {m : Nat} {D : DataW Unit} (h : MapIs W m D) (e : W'.heap[m]? = W.heap[m]?) : MapIs W' m D := by
  obtain ⟨es, clock, hb, r⟩ := h
  exact ⟨es, clock, e.trans hb, r⟩
theorem MapIs.lt {W : World} {m : Nat} {D : DataW Unit} (h : MapIs W m D) : m < W.heap.size := World.ownsMap.lt h
theorem zero_int (w : World) : (zeroValue 3).run Tryz.prog w = .ok (.int .i64 0) w := by kernel_rfl
theorem string_law : Maps.Keyed Tryz.prog 9 := Maps.string_keyed Tryz.underlying9
/-- What D says of each text: its least version, and that it is there just where that is not 0. -/
def Says (D : DataW Unit) (f : ByteArray → Int) : Prop :=
  ∀ s : ByteArray, s.size ≤ maxLen → D.atKey (.string s.data.toList) (.lit (.int .i64 0)) = .lit (.int .i64 (f s)) ∧ Maps.has D (.string s.data.toList) = decide (¬ f s = 0)
theorem bytes_ext {s t : ByteArray} (h : s.data.toList = t.data.toList) : s = t := by
  cases s
  cases t
  simpa [ByteArray.mk.injEq, Array.toList_inj] using h
theorem key_ne {s t : ByteArray} (h : ¬ s = t) : (Lit.string s.data.toList) ≠ Lit.string t.data.toList := by
  intro e
  injection e with e
  exact h (bytes_ext e)
theorem says_put {D : DataW Unit} {f : ByteArray → Int} {nm : ByteArray} {v : Int} (hD : Maps.IsMap D) (h : Says D f) (hv : ¬ v = 0) : Says (D.put (.string nm.data.toList) (.lit (.int .i64 v))) (updF f nm v) := by
  intro s hs
  by_cases e : s = nm
  · subst e
    rw [Maps.atKey_put_same hD (k := .string s.data.toList) trivial, Maps.has_put_same hD (k := .string s.data.toList) trivial, updF_same]
    exact ⟨rfl, (decide_eq_true hv).symm⟩
  · rw [Maps.atKey_put_other (key_ne e), Maps.has_put_other (key_ne e)]
    have e2 : updF f nm v s = f s := if_neg e
    rw [e2]
    exact h s hs
theorem wf_int {v : Int} (h0 : 0 ≤ v) (h1 : v ≤ 1000) : (Lit.int .i64 v).wf = true := by
  simp [Lit.wf, IntKind.min, IntKind.max, IntKind.bits, IntKind.signed]
  omega

/-- Counts in memory: the block g has the map, which lies in the block m. -/
def CIs (W : World) (B g m : Nat) (f : ByteArray → Int) (k : Nat) : Prop :=
  W.heap[g]? = some (.cells #[.map (some m)] 153) ∧ B ≤ g ∧ B ≤ m ∧ k ≤ 12 ∧ (∀ s, 0 ≤ f s) ∧ m ≠ g ∧ ∃ D, MapIs W m D ∧ Maps.size D = k ∧ Says D f
def foot (g m : Nat) (b : Nat) : Prop := b = g ∨ b = m
def Cnt (W : World) (B : Nat) (p : Value) (S : Nat → Prop) (f : ByteArray → Int) (k : Nat) : Prop :=
  ∃ g m, p = .pointer (some ⟨g, 0, none⟩) ∧ S = foot g m ∧ CIs W B g m f k
theorem CIs.keep {W W' : World} {B g m : Nat} {f : ByteArray → Int} {k : Nat} (h : CIs W B g m f k) (hg : W'.heap[g]? = W.heap[g]?) (hm : W'.heap[m]? = W.heap[m]?) : CIs W' B g m f k := by
  obtain ⟨h1, h2, h3, h4, h5, h6, D, h7, h8⟩ := h
  exact ⟨hg.trans h1, h2, h3, h4, h5, h6, D, h7.heap hm, h8⟩
theorem CIs.lt {W : World} {B g m : Nat} {f : ByteArray → Int} {k : Nat} (h : CIs W B g m f k) : g < W.heap.size ∧ m < W.heap.size := by
  obtain ⟨h1, h2, h3, h4, h5, h6, D, h7, h8⟩ := h
  exact ⟨blk_lt h1, h7.lt⟩
theorem CIs.below {W W' : World} {B g m : Nat} {f : ByteArray → Int} {k : Nat} (h : CIs W B g m f k) (hb : Below W.heap.size W W') : CIs W' B g m f k := h.keep (hb.block g h.lt.1) (hb.block m h.lt.2)
theorem CIs.cell {W : World} {B g m : Nat} {f : ByteArray → Int} {k : Nat} (h : CIs W B g m f k) : W.cell? ⟨g, 0, none⟩ = some (.map (some m)) := by
  rw [cell_of_row W g _ _ _ _ h.1]
  rfl
set_option maxRecDepth 20000 in
theorem CIs.look {W : World} {B g m : Nat} {f : ByteArray → Int} {k : Nat} (h : CIs W B g m f k) {nm : ByteArray} (hn : nm.size ≤ maxLen) :
    (Instr.lookup 151 (.map (some m)) (.string nm) false).run Tryz.prog W = .ok (.int .i64 (f nm)) W := by
  obtain ⟨_, _, _, _, _, _, D, h7, _, h9⟩ := h
  obtain ⟨c, hrun, hat, _⟩ := World.ownsMap.lookup_int h7 string_law Tryz.underlying151 Tryz.underlying3 (q := .i64) (zero_int _) (keyOf_string_mk Tryz.underlying9 hn)
  rw [(h9 nm hn).1] at hat
  injection hat with hat
  injection hat with _ hat
  rw [hrun, hat]
theorem CIs.len {W : World} {B g m : Nat} {f : ByteArray → Int} {k : Nat} (h : CIs W B g m f k) (ty : TypeId) :
    (Builtin.len_ #[151] ty #[.map (some m)]).run Tryz.prog W = .ok (.int .i64 k) W := by
  obtain ⟨_, _, _, _, _, _, D, h7, h8, _⟩ := h
  rw [← h8]
  exact World.ownsMap.len h7 Tryz.underlying151 ty

def resW : Result Unit → World
  | .ok _ W => W
  | .halt _ W => W
/-- What a store into the map does, as a function of the world. -/
theorem puts (B g m : Nat) (nm : ByteArray) (v : Int) (hn : nm.size ≤ maxLen) (h0 : 1 ≤ v) (h1 : v ≤ 1000) : ∃ put : World → World, ∀ (W : World) (f : ByteArray → Int) (k : Nat), CIs W B g m f k →
    (Instr.mapUpdate 151 (.map (some m)) (.string nm) (.int .i64 v)).run Tryz.prog W = .ok () (put W) ∧ Only (foot g m) W (put W) ∧
      (¬ (f nm = 0 ∧ 12 ≤ k) → CIs (put W) B g m (updF f nm v) (if f nm = 0 then k + 1 else k)) := by
  refine ⟨fun W => resW ((Instr.mapUpdate 151 (.map (some m)) (.string nm) (.int .i64 v)).run Tryz.prog W), fun W f k h => ?_⟩
  obtain ⟨h1', h2, h3, h4, h5, h6, D, h7, h8, h9⟩ := h
  have ht := World.ownsMap.tidy h7 string_law
  obtain ⟨W', hrun, hown, hgr⟩ := World.ownsMap.update h7 string_law Tryz.underlying151 (by unfold maxLen; omega) (keyOf_string_mk Tryz.underlying9 hn) (plainElem_int Tryz.underlying3 (wf_int (by omega) h1))
  have e : resW ((Instr.mapUpdate 151 (.map (some m)) (.string nm) (.int .i64 v)).run Tryz.prog W) = W' := by rw [hrun]; rfl
  simp only [e]
  have hO : Only (foot g m) W W' := (Only.refl _ W).grown hgr (fun b hb => Or.inl (Or.inr (Option.some.inj hb).symm))
  refine ⟨hrun, hO, fun hk => ⟨(hgr.block g (blk_lt h1') (fun e => h6 (Option.some.inj e).symm)).trans h1', h2, h3, ?_, ?_, h6, _, mapIs_of hown, ?_, says_put ht.isMap h9 (by omega)⟩⟩
  · split <;> omega
  · intro s
    unfold updF
    split
    · omega
    · exact h5 s
  · rw [Maps.size_put ht, (h9 nm hn).2, h8]
    by_cases hz : f nm = 0 <;> simp [hz]
theorem Cnt.has {W : World} {B : Nat} {p : Value} {S : Nat → Prop} {f : ByteArray → Int} {k : Nat} (h : Cnt W B p S f k) : ∀ b, S b → B ≤ b ∧ b < W.heap.size := by
  obtain ⟨g, m, _, rfl, h⟩ := h
  rintro b (rfl | rfl)
  · exact ⟨h.2.1, h.lt.1⟩
  · exact ⟨h.2.2.1, h.lt.2⟩
theorem Cnt.only {W W' : World} {B : Nat} {p : Value} {S T : Nat → Prop} {f : ByteArray → Int} {k : Nat} (h : Cnt W B p S f k) (ho : Only T W W') (hn : ∀ b, S b → ¬ T b) : Cnt W' B p S f k := by
  obtain ⟨g, m, hp, rfl, h⟩ := h
  exact ⟨g, m, hp, rfl, h.keep (ho.2.2.2.2 g h.lt.1 (hn g (Or.inl rfl))) (ho.2.2.2.2 m h.lt.2 (hn m (Or.inr rfl)))⟩
theorem cis_new (w : World) (B : Nat) (hB : B ≤ w.heap.size) : CIs ((w.alloc (.map #[] 0)).alloc (.cells #[.map (some w.heap.size)] 153)) B (w.heap.size + 1) w.heap.size (fun _ => 0) 0 := by
  have hs : (w.alloc (.map #[] 0)).heap.size = w.heap.size + 1 := by simp
  have h0 : (w.alloc (.map #[] 0)).ownsMap Tryz.prog 9 (plainElem Tryz.prog 3) w.heap.size 0 (.map [] : DataW Unit) := World.ownsMap_made w _ _ _
  refine ⟨by rw [← hs]; exact blk_new _ _, by omega, hB, by omega, fun _ => Int.le_refl _, by omega, .map [], mapIs_of (h0.alloc _), rfl, fun s _ => ⟨rfl, rfl⟩⟩
end Go.Proofs.YtojdaifnljghkabGreatDoor.Count
