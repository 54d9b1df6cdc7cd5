/-
  How package device's object lies in memory: the root key, the secret, counts, slots and what was started, each apart from the others; what becomes of it when one of them takes a step.
-/
import Derived.Test.YtojdaifnljghkabGreatDoorQDeviceLaw
import Derived.Test.YtojdaifnljghkabGreatDoorQCntObj
import Derived.Test.YtojdaifnljghkabGreatDoorQSlotObj
import Derived.Test.YtojdaifnljghkabGreatDoorQQuote1
import Derived.Test.YtojdaifnljghkabGreatDoorPack1
import Derived.Test.YtojdaifnljghkabGreatDoorQCells
namespace Go.Proofs.YtojdaifnljghkabGreatDoor.Device
open Go.ChangeShapes Go.WideShapes Go.ChangeAt Go.RowKit
open Go.Proofs.YtojdaifnljghkabGreatDoor.M
set_option linter.unusedVariables false

/-- What was started, in the block r: an image, the bank that it came to, and the event. -/
def Std (W : World) (r : Nat) (nm : ByteArray) (v : Int) (cd : ByteArray) (m : Int) : Prop :=
  ∃ z0 z1 z2 z3 z4 z5 z6 z7 : Int, bankC (repV [(0, m)]) = #[.int .i64 z0, .int .i64 z1, .int .i64 z2, .int .i64 z3, .int .i64 z4, .int .i64 z5, .int .i64 z6, .int .i64 z7] ∧
    W.heap[r]? = some (.cells #[.string nm, .int .i64 v, .string cd, .int .i64 z0, .int .i64 z1, .int .i64 z2, .int .i64 z3, .int .i64 z4, .int .i64 z5, .int .i64 z6, .int .i64 z7, .int .i64 0, .int .i64 m] 112)
/-- What runs. -/
def RunIs (W : World) (B : Nat) (rp : Value) (R : Nat → Prop) (d : DS) : Prop :=
  (d.on = false ∧ rp = .pointer none ∧ R = fun _ => False) ∨ ∃ r, d.on = true ∧ rp = .pointer (some ⟨r, 0, none⟩) ∧ (R = fun k => k = r) ∧ B ≤ r ∧ Std W r d.nm d.v d.cd (meaV d.nm d.v d.cd)
/-- The blocks of a device that lies at g. -/
def feet (g : Nat) (SC SS R : Nat → Prop) (k : Nat) : Prop := k = g ∨ SC k ∨ SS k ∨ R k
/-- A device in memory. -/
def DIs (W : World) (B g : Nat) (cp sp rp : Value) (SC SS R : Nat → Prop) (d : DS) : Prop :=
  W.heap[g]? = some (.cells #[.int .i64 d.root, .int .i64 d.x, cp, sp, rp] 104) ∧ Count.Cnt W B cp SC d.f d.k ∧ Slot.Slt W B sp SS d.t ∧ RunIs W B rp R d ∧
    (¬ SC g ∧ ¬ SS g ∧ ¬ R g) ∧ (∀ k, SC k → ¬ SS k) ∧ (∀ k, SC k → ¬ R k) ∧ (∀ k, SS k → ¬ R k) ∧ B ≤ g
def Dvc (W : World) (B : Nat) (p : Value) (S : Nat → Prop) (d : DS) : Prop :=
  ∃ g cp sp rp SC SS R, p = .pointer (some ⟨g, 0, none⟩) ∧ S = feet g SC SS R ∧ DIs W B g cp sp rp SC SS R d ∧ OkD d
section Di
variable {W W' : World} {B g r : Nat} {cp sp rp : Value} {SC SS R T : Nat → Prop} {d : DS} {p : Value} {S : Nat → Prop} {nm cd : ByteArray} {v m : Int}
theorem Std.only (h : Std W r nm v cd m) (ho : Only T W W') (hn : ¬ T r) : Std W' r nm v cd m := by
  obtain ⟨z0, z1, z2, z3, z4, z5, z6, z7, h1, h2⟩ := h
  exact ⟨z0, z1, z2, z3, z4, z5, z6, z7, h1, ho.heap h2 hn⟩
theorem Std.lt (h : Std W r nm v cd m) : r < W.heap.size := by
  obtain ⟨z0, z1, z2, z3, z4, z5, z6, z7, h1, h2⟩ := h
  exact blk_lt h2
theorem RunIs.only (h : RunIs W B rp R d) (ho : Only T W W') (hn : ∀ k, R k → ¬ T k) : RunIs W' B rp R d := by
  rcases h with h | ⟨r, h1, h2, h3, h4, h5⟩
  · exact Or.inl h
  · exact Or.inr ⟨r, h1, h2, h3, h4, h5.only ho (hn r (by rw [h3]))⟩
theorem RunIs.has (h : RunIs W B rp R d) : ∀ k, R k → B ≤ k ∧ k < W.heap.size := by
  rcases h with ⟨_, _, h3⟩ | ⟨r, h1, h2, h3, h4, h5⟩
  · intro k hk; rw [h3] at hk; exact hk.elim
  · intro k hk; rw [h3] at hk; subst hk; exact ⟨h4, h5.lt⟩
theorem DIs.only (h : DIs W B g cp sp rp SC SS R d) (ho : Only T W W') (hn : ∀ k, feet g SC SS R k → ¬ T k) : DIs W' B g cp sp rp SC SS R d := by
  obtain ⟨h1, h2, h3, h4, h5⟩ := h
  exact ⟨ho.heap h1 (hn g (Or.inl rfl)), Count.core.only h2 ho (fun k hk => hn k (Or.inr (Or.inl hk))), Slot.core.only h3 ho (fun k hk => hn k (Or.inr (Or.inr (Or.inl hk)))), h4.only ho (fun k hk => hn k (Or.inr (Or.inr (Or.inr hk)))), h5⟩
theorem DIs.below (h : DIs W B g cp sp rp SC SS R d) (hb : Below W.heap.size W W') : DIs W' B g cp sp rp SC SS R d := h.only (Only.of_below (S := fun _ => False) hb) (fun _ _ hf => hf)
theorem DIs.has (h : DIs W B g cp sp rp SC SS R d) : ∀ k, feet g SC SS R k → B ≤ k ∧ k < W.heap.size := by
  obtain ⟨h1, h2, h3, h4, _, _, _, _, h5⟩ := h
  rintro k (rfl | hk | hk | hk)
  · exact ⟨h5, blk_lt h1⟩
  · exact Count.core.has h2 k hk
  · exact Slot.core.has h3 k hk
  · exact h4.has k hk
theorem Dvc.has (h : Dvc W B p S d) : ∀ k, S k → B ≤ k ∧ k < W.heap.size := by
  obtain ⟨g, cp, sp, rp, SC, SS, R, _, rfl, h, _⟩ := h
  exact h.has
theorem Dvc.only (h : Dvc W B p S d) (ho : Only T W W') (hn : ∀ k, S k → ¬ T k) : Dvc W' B p S d := by
  obtain ⟨g, cp, sp, rp, SC, SS, R, hp, rfl, hi, hk⟩ := h
  exact ⟨g, cp, sp, rp, SC, SS, R, hp, rfl, hi.only ho hn, hk⟩
end Di
/-- Since w: where the device stands now; but for the blocks F all is as it was, and its blocks are of these, or new. -/
def Aft (w : World) (B g : Nat) (F : Nat → Prop) (cp sp rp : Value) (SC SS R : Nat → Prop) (d : DS) (W : World) : Prop :=
  DIs W B g cp sp rp SC SS R d ∧ Only F w W ∧ (∀ b, feet g SC SS R b → F b ∨ w.heap.size ≤ b)
section Af
variable {w W W' : World} {B g r : Nat} {F : Nat → Prop} {cp sp rp : Value} {SC SS R : Nat → Prop} {d : DS}
theorem aft_of (h : DIs w B g cp sp rp SC SS R d) : Aft w B g (feet g SC SS R) cp sp rp SC SS R d w := ⟨h, Only.refl _ _, fun b hb => Or.inl hb⟩
theorem aft_below (h : Aft w B g F cp sp rp SC SS R d W) (hb : Below W.heap.size W W') : Aft w B g F cp sp rp SC SS R d W' := ⟨h.1.below hb, h.2.1.after hb, h.2.2⟩
theorem aft_drew (h : Aft w B g F cp sp rp SC SS R d W) : Aft w B g F cp sp rp SC SS R d W.drew := aft_below h (Below.drew (Below.refl _ _))
theorem aft_alloc (h : Aft w B g F cp sp rp SC SS R d W) (o : Obj) : Aft w B g F cp sp rp SC SS R d (W.alloc o) := aft_below h (below_new W o)
theorem aft_cells (h : Aft w B g F cp sp rp SC SS R d W) : W.cell? ⟨g, 0, none⟩ = some (.int .i64 d.root) ∧ W.cell? ⟨g, 1, none⟩ = some (.int .i64 d.x) ∧ W.cell? ⟨g, 2, none⟩ = some cp ∧ W.cell? ⟨g, 3, none⟩ = some sp ∧ W.cell? ⟨g, 4, none⟩ = some rp := quin_cells h.1.1
/-- The counts take a step. -/
theorem aft_cnt (h : Aft w B g F cp sp rp SC SS R d W) {SC' : Nat → Prop} {f : ByteArray → Int} {k : Nat} (hc : Count.Cnt W' B cp SC' f k) (ho : Only SC W W') (hf : ∀ b, SC' b → SC b ∨ W.heap.size ≤ b) : Aft w B g F cp sp rp SC' SS R { d with f := f, k := k } W' := by
  obtain ⟨⟨h1, h2, h3, h4, ⟨n1, n2, n3⟩, e1, e2, e3, h5⟩, hO, hF⟩ := h
  have hg := blk_lt h1
  refine ⟨⟨ho.heap h1 n1, hc, Slot.core.only h3 ho (fun k hk hs => e1 k hs hk), h4.only ho (fun k hk hs => e2 k hs hk), ⟨fun hs => (hf g hs).elim n1 (fun h => by omega), n2, n3⟩, ?_, ?_, e3, h5⟩, ?_, ?_⟩
  · exact fun k hk hs => (hf k hk).elim (fun h => e1 k h hs) (fun h => by have := (Slot.core.has h3 k hs).2; omega)
  · exact fun k hk hs => (hf k hk).elim (fun h => e2 k h hs) (fun h => by have := (h4.has k hs).2; omega)
  · exact hO.trans ho (fun k hl hk => (hF k (Or.inr (Or.inl hk))).elim id (fun h => by omega))
  · rintro b (hb | hb | hb)
    · exact hF b (Or.inl hb)
    · exact (hf b hb).elim (fun h => hF b (Or.inr (Or.inl h))) (fun h => Or.inr (Nat.le_trans hO.size h))
    · exact hF b (Or.inr (Or.inr hb))
/-- The slots take a step. -/
theorem aft_slt (h : Aft w B g F cp sp rp SC SS R d W) {SS' : Nat → Prop} {t : St} (hc : Slot.Slt W' B sp SS' t) (ho : Only SS W W') (hf : ∀ b, SS' b → SS b ∨ W.heap.size ≤ b) : Aft w B g F cp sp rp SC SS' R { d with t := t } W' := by
  obtain ⟨⟨h1, h2, h3, h4, ⟨n1, n2, n3⟩, e1, e2, e3, h5⟩, hO, hF⟩ := h
  have hg := blk_lt h1
  refine ⟨⟨ho.heap h1 n2, Count.core.only h2 ho (fun k hk hs => e1 k hk hs), hc, h4.only ho (fun k hk hs => e3 k hs hk), ⟨n1, fun hs => (hf g hs).elim n2 (fun h => by omega), n3⟩, ?_, e2, ?_, h5⟩, ?_, ?_⟩
  · exact fun k hk hs => (hf k hs).elim (fun h => e1 k hk h) (fun h => by have := (Count.core.has h2 k hk).2; omega)
  · exact fun k hk hs => (hf k hk).elim (fun h => e3 k h hs) (fun h => by have := (h4.has k hs).2; omega)
  · exact hO.trans ho (fun k hl hk => (hF k (Or.inr (Or.inr (Or.inl hk)))).elim id (fun h => by omega))
  · rintro b (hb | hb | hb | hb)
    · exact hF b (Or.inl hb)
    · exact hF b (Or.inr (Or.inl hb))
    · exact (hf b hb).elim (fun h => hF b (Or.inr (Or.inr (Or.inl h)))) (fun h => Or.inr (Nat.le_trans hO.size h))
    · exact hF b (Or.inr (Or.inr (Or.inr hb)))
theorem quin_last {w : World} {b : Nat} {a0 a1 a2 a3 a4 z : Value} {t : TypeId} {fr : Nat × Nat} (hg : w.heap[b]? = some (.cells #[a0, a1, a2, a3, a4] t fr)) : w.setCell ⟨b, 4, none⟩ z = w.setRow b #[a0, a1, a2, a3, z] := by
  rw [setCell_eq_setRow w b 4 _ _ _ z hg]
  rfl
/-- Something was started: it lies in a new block, and the device's last cell points there. -/
theorem aft_run (h : Aft w B g F cp sp rp SC SS R d W) {nm cd : ByteArray} {v : Int} (hB : B ≤ r) (hw : w.heap.size ≤ r) (hn : ¬ feet g SC SS R r) (hs : Std W r nm v cd (meaV nm v cd)) :
    Aft w B g F cp sp (.pointer (some ⟨r, 0, none⟩)) SC SS (fun k => k = r) { d with on := true, nm := nm, v := v, cd := cd } (W.setCell ⟨g, 4, none⟩ (.pointer (some ⟨r, 0, none⟩))) := by
  obtain ⟨⟨h1, h2, h3, h4, ⟨n1, n2, n3⟩, e1, e2, e3, h5⟩, hO, hF⟩ := h
  have hg : g ≠ r := fun e => hn (Or.inl e.symm)
  have ho : Only (fun k => k = g) W (W.setCell ⟨g, 4, none⟩ (.pointer (some ⟨r, 0, none⟩))) := (Only.refl (fun k => k = g) W).setCell (p := ⟨g, 4, none⟩) rfl _
  refine ⟨⟨?_, Count.core.only h2 ho (fun k hk e => n1 (by rw [← e]; exact hk)), Slot.core.only h3 ho (fun k hk e => n2 (by rw [← e]; exact hk)), Or.inr ⟨r, rfl, rfl, rfl, hB, hs.only ho (fun e => hg e.symm)⟩, ⟨n1, n2, hg⟩, e1, ?_, ?_, h5⟩, ?_, ?_⟩
  · rw [quin_last h1]
    exact setRow_heap _ _ _ _ _ _ h1
  · exact fun k hk e => hn (Or.inr (Or.inl (e ▸ hk)))
  · exact fun k hk e => hn (Or.inr (Or.inr (Or.inl (e ▸ hk))))
  · exact hO.trans ho (fun k hl hk => (hF k (Or.inl hk)).elim id (fun h => by omega))
  · rintro b (hb | hb | hb | hb)
    · exact hF b (Or.inl hb)
    · exact hF b (Or.inr (Or.inl hb))
    · exact hF b (Or.inr (Or.inr (Or.inl hb)))
    · exact Or.inr (by rw [show b = r from hb]; exact hw)
/-- What a method leaves. -/
def Left (w : World) (B g : Nat) (F : Nat → Prop) (d : DS) (W : World) : Prop := ∃ S', Dvc W B (.pointer (some ⟨g, 0, none⟩)) S' d ∧ Only F w W ∧ (∀ b, S' b → F b ∨ w.heap.size ≤ b)
theorem aft_left (h : Aft w B g F cp sp rp SC SS R d W) (hk : OkD d) : Left w B g F d W := ⟨_, ⟨g, cp, sp, rp, SC, SS, R, rfl, rfl, h.1, hk⟩, h.2.1, h.2.2⟩
end Af
/-- What the library's tables hold stays while the slots are written: their block is none of the tables'. -/
theorem has_slt {w w' : World} {B : Nat} {sp : Value} {SS : Nat → Prop} {t : St} (hh : Image.Has w) (hs : Slot.Slt w B sp SS t) (ho : Only SS w w') : Image.Has w' := by
  obtain ⟨g, rfl, rfl, ⟨hg, _⟩, _⟩ := hs
  obtain ⟨⟨h1, h2⟩, _⟩ := hh
  refine ⟨⟨Nat.lt_of_lt_of_le h1 ho.size, fun nm hn => ?_⟩, trivial⟩
  have hv := h2 nm hn
  unfold World.var? at hv ⊢
  simp only [hn, Option.bind_some] at hv ⊢
  by_cases e : 1 = g
  · subst e
    rw [hg] at hv
    exfalso
    have h3 := congrArg (fun o => o.map Array.size) hv
    simp [SlotRef.stC, Lib.pow10Tab] at h3
  · rw [ho.2.2.2.2 _ h1 e]
    exact hv
end Go.Proofs.YtojdaifnljghkabGreatDoor.Device
