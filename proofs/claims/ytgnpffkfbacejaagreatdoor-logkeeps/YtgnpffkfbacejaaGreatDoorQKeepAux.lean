/-
  Plain facts that the walk of stairlaw3.LogKeeps leans on: what lies beside what, and what each step makes of it.
-/
import Derived.Test.YtgnpffkfbacejaaGreatDoorQKeepOb
import Derived.Test.YtgnpffkfbacejaaGreatDoorQAlikeRef
import Derived.Test.YtgnpffkfbacejaaGreatDoorQCells
import Derived.Deep.RegionHeld3
import Derived.Deep.DeepCutAuto
import Derived.Deep.CutBlock
namespace Go.Proofs.YtgnpffkfbacejaaGreatDoor.LogKeeps
open Go.ChangeShapes Go.WideShapes Go.ChangeAt Go.RowKit
open Go.Proofs.YtgnpffkfbacejaaGreatDoor.M Go.Proofs.YtgnpffkfbacejaaGreatDoor.Log
set_option linter.unusedVariables false

theorem errV_no {T : TypeId} {k : Int} (h : ¬ k = 0) : errV T k = .iface T (.int .i64 k) := if_neg h
theorem os_sz : ({ data := #[111, 115] } : ByteArray).size ≤ 140737488351232 := by show (2 : Nat) ≤ 140737488351232; omega
theorem os_nm : nameB { data := #[111, 115] } = true := by decide
theorem own_new1 {α : Type} {cv : α → List Value} {W : World} {B : Nat} {T : TypeId} {x : α} {u : Value} (hx : cv x = [u]) (hB : B ≤ W.heap.size) : OwnR 1 cv (W.alloc (.cells #[u] T)) B T (.slice (some ⟨W.heap.size, 0, none⟩) 1 1) [x] :=
  ⟨by simp [hx], Or.inr ⟨W.heap.size, 1, #[u], rfl, hB, blk_new _ _, Nat.le_refl _, by unfold maxLen; omega, rfl, by simp [hx]⟩⟩
theorem info_ptr : (Tryz.prog.info? 35).map (fun i => (i.zero, i.size, i.bytes)) = some (some (.pointer none), 1, 8) := by kernel_rfl
theorem info_nat : (Tryz.prog.info? 3).map (fun i => (i.zero, i.size, i.bytes)) = some (some (.int .i64 0), 1, 8) := by kernel_rfl
section
variable {Lg : World → Nat → Value → (Nat → Prop) → LS → Prop}
theorem kq_new {LL : Core Lg} {w0 W : World} {p : Value} {S : Nat → Prop} {j : LS} (h : M.Sep w0 w0.heap.size [logI LL w0.heap.size p S j] W) (g gd gm : Nat) (hg : g = W.heap.size) (hd : gd = W.heap.size + 1) (hm : gm = W.heap.size + 2) :
    KQ LL w0 p S j (.slice (some ⟨gd, 0, none⟩) 1 1) (.slice (some ⟨gm, 0, none⟩) 1 1) [(g, .slice none 0 0, [])] [0] (((W.alloc (.cells #[.slice none 0 0] 38)).alloc (.cells #[.pointer (some ⟨g, 0, none⟩)] 35)).alloc (.cells #[.int .i64 0] 3)) := by
  subst hg
  have h1 := Sep.add (i := obI w0.heap.size (W.heap.size, .slice none 0 0, [])) h (below_new W (.cells #[.slice none 0 0] 38)) ⟨⟨blk_new _ _, OwnR.nil _ _ _, by simp [Value.ownBlock], h.hb, by simp, by simp, by simp⟩, fun _ => rfl⟩ (fun k hk => by
    rcases hk with e | e
    · have : k = W.heap.size := e
      omega
    · cases e)
  have e1 : gd = (W.alloc (.cells #[.slice none 0 0] 38)).heap.size := by rw [hd]; simp
  have h2 := Sep.add (i := rowI 1 ptrV w0.heap.size 35 (.slice (some ⟨gd, 0, none⟩) 1 1) [W.heap.size]) h1 (below_new _ (.cells #[.pointer (some ⟨W.heap.size, 0, none⟩)] 35)) (by rw [e1]; exact own_new1 rfl h1.hb) (fun k hk => by
    have hk' : some gd = some k := hk
    have := Option.some.inj hk'
    omega)
  have e2 : gm = ((W.alloc (.cells #[.slice none 0 0] 38)).alloc (.cells #[.pointer (some ⟨W.heap.size, 0, none⟩)] 35)).heap.size := by rw [hm]; simp
  have h3 := Sep.add (i := rowI 1 natV w0.heap.size 3 (.slice (some ⟨gm, 0, none⟩) 1 1) [0]) h2 (below_new _ (.cells #[.int .i64 0] 3)) (by rw [e2]; exact own_new1 rfl h2.hb) (fun k hk => by
    have hk' : some gm = some k := hk
    have := Option.some.inj hk'
    omega)
  exact h3.perm (List.reverse_perm _).symm |>.perm (by
    show List.Perm [logI LL w0.heap.size p S j, obI w0.heap.size (W.heap.size, .slice none 0 0, []), rowI 1 ptrV w0.heap.size 35 (.slice (some ⟨gd, 0, none⟩) 1 1) [W.heap.size], rowI 1 natV w0.heap.size 3 (.slice (some ⟨gm, 0, none⟩) 1 1) [0]] _
    exact List.Perm.cons _ (List.perm_append_comm (l₁ := [_]) (l₂ := [_, _])))
/-- All that the walk carries. -/
def RK (LL : Core Lg) (w0 : World) (p : Value) (S : Nat → Prop) (j : LS) (gd cd gm cm : Nat) (os : List Ob) (ms : List Nat) (W : World) : Prop :=
  KQ LL w0 p S j (.slice (some ⟨gd, 0, none⟩) os.length cd) (.slice (some ⟨gm, 0, none⟩) ms.length cm) os ms W ∧ KR j (os.map (fun o : Ob => o.2.2)) ms
end

theorem row_at {W : World} {a : Option Addr} {xs : List Int} {i : Nat} {y : Int} (h : Row W a xs) (hy : xs[i]? = some y) : ∃ b off, a = some ⟨b, off, none⟩ ∧ W.cell? ⟨b, off + i, none⟩ = some (.int .i64 y) := by
  rcases h with h | ⟨b, off, h1, h2⟩
  · rw [h] at hy; simp at hy
  · exact ⟨b, off, h1, h2 i y hy⟩
theorem txt_at {W : World} {a : Option Addr} {xs : List ByteArray} {i : Nat} {y : ByteArray} (h : RRow 1 txtV W a xs) (hy : xs[i]? = some y) : ∃ b off, a = some ⟨b, off, none⟩ ∧ W.cell? ⟨b, off + i, none⟩ = some (.string y) := by
  obtain ⟨b, off, h1, h2⟩ := h.at hy
  have := h2 0 _ rfl
  exact ⟨b, off, h1, by simpa using this⟩
theorem row_cell {W : World} {b off : Nat} {xs : List Int} {i : Nat} {y : Int} (h : Row W (some ⟨b, off, none⟩) xs) (hy : xs[i]? = some y) : W.cell? ⟨b, off + i, none⟩ = some (.int .i64 y) := by
  obtain ⟨b', off', e, h⟩ := row_at h hy
  cases e
  exact h
theorem txt_cell {W : World} {b off : Nat} {xs : List ByteArray} {i : Nat} {y : ByteArray} (h : RRow 1 txtV W (some ⟨b, off, none⟩) xs) (hy : xs[i]? = some y) : W.cell? ⟨b, off + i, none⟩ = some (.string y) := by
  obtain ⟨b', off', e, h⟩ := txt_at h hy
  cases e
  exact h
theorem ofC_pos {s : ByteArray} : ∀ {cs : Cs}, (∀ c ∈ cs, 0 < c.2) → 0 ≤ CntRef.ofC cs s
  | [], _ => Int.le_refl _
  | c :: r, h => by
    unfold CntRef.ofC
    split
    · have := h c (List.mem_cons_self ..)
      omega
    · exact ofC_pos (fun d hd => h d (List.mem_cons_of_mem _ hd))
section
variable {Lg : World → Nat → Value → (Nat → Prop) → LS → Prop} {LL : Core Lg} {w0 W W' : World} {p dv mv : Value} {S : Nat → Prop} {j : LS} {os : List Ob} {ms : List Nat} {g : Nat} {v : Value} {cs : Cs} {f : ByteArray → Int} {k : Nat} {s : ByteArray} {x : Int}
/-- The reference's Raise goes on: counts there are, and behind it what it makes of them. -/
def NX (LL : Core Lg) (w0 : World) (g : Nat) (p : Value) (S : Nat → Prop) (j : LS) (dv mv : Value) (os : List Ob) (ms : List Nat) (W : World) : Prop := ∃ v cs, KN LL w0 g v cs p S j dv mv os ms W
def NA (LL : Core Lg) (w0 : World) (g : Nat) (f : ByteArray → Int) (k : Nat) (s : ByteArray) (x : Int) (p : Value) (S : Nat → Prop) (j : LS) (dv mv : Value) (os : List Ob) (ms : List Nat) (W : World) : Prop :=
  ∃ v cs, CntRef.ofC cs = raiF f k s x ∧ cs.length = raiK f k s x ∧ (raiB f k s x = true → ¬ cs = []) ∧ KN LL w0 g v cs p S j dv mv os ms W
/-- The log's own Raise goes on. -/
def FX (LL : Core Lg) (w0 : World) (g : Nat) (v : Value) (cs : Cs) (p dv mv : Value) (os : List Ob) (ms : List Nat) (W : World) : Prop := ∃ S j, KN LL w0 g v cs p S j dv mv os ms W
theorem nx_drew (h : NX LL w0 g p S j dv mv os ms W) : NX LL w0 g p S j dv mv os ms W.drew := by
  obtain ⟨v, cs, h⟩ := h
  exact ⟨v, cs, h.drew⟩
theorem na_drew (h : NA LL w0 g f k s x p S j dv mv os ms W) : NA LL w0 g f k s x p S j dv mv os ms W.drew := by
  obtain ⟨v, cs, h1, h2, h3, h⟩ := h
  exact ⟨v, cs, h1, h2, h3, h.drew⟩
theorem na_nx (h : NA LL w0 g f k s x p S j dv mv os ms W) : NX LL w0 g p S j dv mv os ms W := by
  obtain ⟨v, cs, h1, h2, h3, h⟩ := h
  exact ⟨v, cs, h⟩
theorem fx_drew (h : FX LL w0 g v cs p dv mv os ms W) : FX LL w0 g v cs p dv mv os ms W.drew := by
  obtain ⟨S, j, h⟩ := h
  exact ⟨S, j, h.drew⟩
theorem nx_lo (h : NX LL w0 g p S j dv mv os ms W) : Below w0.heap.size w0 W := by
  obtain ⟨v, cs, h⟩ := h
  exact h.lo
theorem fx_lo (h : FX LL w0 g v cs p dv mv os ms W) : Below w0.heap.size w0 W := by
  obtain ⟨S, j, h⟩ := h
  exact h.lo
theorem kq_cell {gd cd : Nat} (h : KQ LL w0 p S j (.slice (some ⟨gd, 0, none⟩) os.length cd) mv os ms W) {i : Nat} {o : Ob} (hi : os[i]? = some o) : W.cell? ⟨gd, i, none⟩ = some (.pointer (some ⟨o.1, 0, none⟩)) ∧ os.length ≤ cd ∧ cd ≤ maxLen := by
  obtain ⟨g', cap, e, h1, h2, h3⟩ := h.done (by have := (List.getElem?_eq_some_iff.1 hi).1; omega)
  cases e
  exact ⟨h3 i o hi, h1, h2⟩
theorem kq_mark {gm cm : Nat} (h : KQ LL w0 p S j dv (.slice (some ⟨gm, 0, none⟩) ms.length cm) os ms W) {i m : Nat} (hi : ms[i]? = some m) : W.cell? ⟨gm, i, none⟩ = some (.int .i64 m) ∧ ms.length ≤ cm ∧ cm ≤ maxLen := by
  obtain ⟨g', cap, e, h1, h2, h3⟩ := h.marks (by have := (List.getElem?_eq_some_iff.1 hi).1; omega)
  cases e
  exact ⟨h3 i m hi, h1, h2⟩
theorem rk_last {gd cd gm cm : Nat} (h : RK LL w0 p S j gd cd gm cm os ms W) : os.length = j.rs.length + 1 ∧ ms.length = j.rs.length + 1 ∧ ∃ (g : Nat) (v : Value) (cs : Cs), os[j.rs.length]? = some (g, v, cs) ∧ CntRef.ofC cs = j.f ∧ cs.length = j.k := by
  have h1 : os.length = j.rs.length + 1 := by have := h.2.dl; simpa using this
  have h2 := h.2.ml
  obtain ⟨⟨g, v, cs⟩, ho⟩ : ∃ o, os[j.rs.length]? = some o := ⟨os[j.rs.length]'(by omega), List.getElem?_eq_getElem (by omega)⟩
  have h3 := kr_last (cs := cs) h.2 (by rw [List.getElem?_map, ho]; rfl)
  exact ⟨h1, h2, g, v, cs, ho, h3.1, h3.2⟩
/-- What Raise of the reference does while all the rest lies beside. -/
theorem raise_kn (nm : ByteArray) (hz : nm.size ≤ 140737488351232) (h : KN LL w0 g v cs p S j dv mv os ms W) (hf : CntRef.ofC cs = f) (hk : cs.length = k) :
    Calls Tryz.prog 14 #[.pointer (some ⟨g, 0, none⟩), .string nm, .int .i64 x] W fun e w' => e = .returned (.tuple #[.bool (raiB f k nm x), .int .i64 (raiE f k nm x)]) ∧ NA LL w0 g f k nm x p S j dv mv os ms w' := by
  subst hf hk
  refine (CntRef.raise_any g v cs nm x W w0.heap.size h.ob hz h.hb).mono ?_
  rintro e w' ⟨rfl, ha⟩
  obtain ⟨v', cs', h1, h2, h3⟩ := h.raise ha
  refine ⟨rfl, v', cs', h1, h2, fun hb he => ?_, h3⟩
  subst he
  have h5 : CntRef.ofC [] nm = 0 := rfl
  rw [h1, raiF_yes hb, updF_same] at h5
  have h6 := ofC_pos (s := nm) h.ob.2.2.2.2.2.1
  have h7 := (raiB_iff.1 hb).2.2.1
  omega
theorem refB_rai (j : LS) (nm : ByteArray) (x : Int) (h : refB j nm x = true) : raiB j.f j.k nm x = true := by
  unfold refB at h
  rw [Bool.and_eq_true] at h
  exact h.1
theorem lra_yes {j : LS} {nm : ByteArray} {x : Int} (hk : OkL j) (m : Nat) (h6 : ¬ lraE j nm x = 6) (hB : refB j nm x = true) : lraE j nm x = 0 ∧ (lraT j nm x m).rs = j.rs ++ [(nm, x, m)] ∧ (lraT j nm x m).bytes = lenL (j.rs ++ [(nm, x, m)]) ∧ (lraT j nm x m).bytes = j.bytes + m := by
  obtain ⟨_, _, _, h4⟩ := lra_else (n := m) h6
  obtain ⟨e1, e2⟩ := h4 hB
  have hs : j.stop = false := by
    cases hs : j.stop with
    | false => rfl
    | true => exact absurd (by unfold lraE; rw [if_pos hs]) h6
  have h0 := hk.stop hs
  refine ⟨e1, by rw [e2], ?_, ?_⟩
  · rw [e2]
    show lenL (j.rs ++ [(nm, x, m)]) + j.half = _
    omega
  · rw [e2]
    show lenL (j.rs ++ [(nm, x, m)]) + j.half = lenL j.rs + j.half + m
    rw [lenL_snoc]
    show lenL j.rs + m + j.half = _
    omega
theorem three_S {A B C : Prop} (hc : C) (hab : C → A ∧ B) : A ∧ B ∧ C := ⟨(hab hc).1, (hab hc).2, hc⟩
theorem high_no {j : LS} {kp : Int} (h : kp ≤ 0) : highL j kp = j.safe := by unfold highL; rw [if_pos h]
theorem high_in {j : LS} {kp : Int} (h : ¬ kp ≤ 0) (h2 : kp < (j.bytes : Int) - j.safe) : highL j kp = j.safe + kp.toNat := by unfold highL; rw [if_neg h, if_pos h2]
theorem high_all {j : LS} {kp : Int} (h : ¬ kp ≤ 0) (h2 : ¬ kp < (j.bytes : Int) - j.safe) : highL j kp = j.bytes := by unfold highL; rw [if_neg h, if_neg h2]
theorem cell_ptr {W : World} {b g : Nat} {T : TypeId} (h : W.heap[b]? = some (.cells #[.pointer (some ⟨g, 0, none⟩)] T)) : ∀ (j : Nat) (u : Value), (ptrV g)[j]? = some u → W.cell? ⟨b, j, none⟩ = some u := fun j u hu => by
  rw [cell_of_row _ _ _ _ _ _ h]
  match j with
  | 0 => simpa [ptrV] using hu
  | j + 1 => simp [ptrV] at hu
theorem cell_nat {W : World} {b m : Nat} {T : TypeId} (h : W.heap[b]? = some (.cells #[.int .i64 m] T)) : ∀ (j : Nat) (u : Value), (natV m)[j]? = some u → W.cell? ⟨b, j, none⟩ = some u := fun j u hu => by
  rw [cell_of_row _ _ _ _ _ _ h]
  match j with
  | 0 => simpa [natV] using hu
  | j + 1 => simp [natV] at hu
theorem refB_is (j : LS) (nm : ByteArray) (x : Int) (h : (raiB j.f j.k nm x && decide (30 ≤ j.rs.length)) = true) : refB j nm x = false ∧ refE j nm x = 4 := by
  rw [Bool.and_eq_true, decide_eq_true_iff] at h
  exact ⟨by unfold refB; rw [decide_eq_false (by omega), Bool.and_false], by unfold refE; rw [if_pos h]⟩
theorem refB_no (j : LS) (nm : ByteArray) (x : Int) (h : (raiB j.f j.k nm x && decide (30 ≤ j.rs.length)) = false) : refB j nm x = raiB j.f j.k nm x ∧ refE j nm x = raiE j.f j.k nm x := by
  cases hb : raiB j.f j.k nm x with
  | false => exact ⟨by unfold refB; rw [hb, Bool.false_and], by unfold refE; rw [if_neg (by rw [hb]; exact fun h => nomatch h.1)]⟩
  | true =>
    rw [hb, Bool.true_and, decide_eq_false_iff_not] at h
    exact ⟨by unfold refB; rw [hb, Bool.true_and, decide_eq_true (by omega)], by unfold refE; rw [if_neg (fun hc => h hc.2)]⟩
end
end Go.Proofs.YtgnpffkfbacejaaGreatDoor.LogKeeps
