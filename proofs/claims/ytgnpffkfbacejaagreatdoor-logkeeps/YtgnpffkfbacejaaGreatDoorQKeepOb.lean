/-
  The log, the list of counts, the list of marks and the counts themselves, as things that lie apart; what becomes of them.
-/
import Derived.Test.YtgnpffkfbacejaaGreatDoorQLogOb
import Derived.Test.YtgnpffkfbacejaaGreatDoorQRowOne
import Derived.Test.YtgnpffkfbacejaaGreatDoorQTwinRef
import Derived.Test.YtgnpffkfbacejaaGreatDoorQKeepMath
namespace Go.Proofs.YtgnpffkfbacejaaGreatDoor.Log
open Go.ChangeShapes Go.WideShapes Go.ChangeAt Go.RowKit
open Go.Proofs.YtgnpffkfbacejaaGreatDoor.M
set_option linter.unusedVariables false

def ptrV (g : Nat) : List Value := [.pointer (some ⟨g, 0, none⟩)]
def natV (m : Nat) : List Value := [.int .i64 m]
theorem ptrV_len (g : Nat) : (ptrV g).length = 1 := rfl
theorem natV_len (m : Nat) : (natV m).length = 1 := rfl
theorem ptrV_one (g : Nat) : ∀ u ∈ ptrV g, u.oneCell' = true := by
  intro u hu
  simp only [ptrV, List.mem_cons, List.not_mem_nil, or_false] at hu
  subst hu
  rfl
theorem natV_one (m : Nat) : ∀ u ∈ natV m, u.oneCell' = true := by
  intro u hu
  simp only [natV, List.mem_cons, List.not_mem_nil, or_false] at hu
  subst hu
  rfl
/-- Counts as a thing: where there are none they are nil. -/
def cobI (B g : Nat) (v : Value) (cs : Cs) : Thing B where
  F := CntRef.cfoot g v
  P := fun W => CntRef.CIs W B g v cs ∧ (cs = [] → v = .slice none 0 0)
  has := fun h => h.1.has
  st := fun h ho hn => ⟨h.1.only ho hn, h.2⟩
/-- Counts as a thing. -/
def cnI (B g : Nat) (v : Value) (cs : Cs) : Thing B where
  F := CntRef.cfoot g v
  P := fun W => CntRef.CIs W B g v cs
  has := fun h => h.has
  st := fun h ho hn => h.only ho hn
abbrev Ob := Nat × Value × Cs
def obI (B : Nat) (o : Ob) : Thing B := cobI B o.1 o.2.1 o.2.2
/-- A part of some things. -/
theorem sep_sub {w0 W : World} {B : Nat} {its r : List (Thing B)} (h : M.Sep w0 B its W) (hs : List.Sublist r its) : M.Sep w0 B r W :=
  ⟨fun it hi => h.ok it (hs.subset hi), h.ap.sublist hs, h.lo, h.hb⟩
section Ob
variable {Lg : World → Nat → Value → (Nat → Prop) → LS → Prop}
def KQ (LL : Core Lg) (w0 : World) (p : Value) (S : Nat → Prop) (j : LS) (dv mv : Value) (os : List Ob) (ms : List Nat) (W : World) : Prop :=
  M.Sep w0 w0.heap.size (logI LL w0.heap.size p S j :: rowI 1 ptrV w0.heap.size 35 dv (os.map (fun o : Ob => o.1)) :: rowI 1 natV w0.heap.size 3 mv ms :: os.map (obI w0.heap.size)) W
variable {LL : Core Lg} {w0 W W' : World} {p dv dv' mv mv' : Value} {S : Nat → Prop} {j : LS} {os : List Ob} {ms : List Nat} {o : Ob}
theorem KQ.below (h : KQ LL w0 p S j dv mv os ms W) (hb : Below W.heap.size W W') : KQ LL w0 p S j dv mv os ms W' := Sep.below h hb
theorem KQ.drew (h : KQ LL w0 p S j dv mv os ms W) : KQ LL w0 p S j dv mv os ms W.drew := Sep.drew h
theorem KQ.lo (h : KQ LL w0 p S j dv mv os ms W) : Below w0.heap.size w0 W := Sep.lo h
theorem KQ.hb (h : KQ LL w0 p S j dv mv os ms W) : w0.heap.size ≤ W.heap.size := Sep.hb h
theorem KQ.lg (h : KQ LL w0 p S j dv mv os ms W) : Lg W w0.heap.size p S j := Sep.p0 h
theorem KQ.ob (h : KQ LL w0 p S j dv mv os ms W) {i : Nat} (hi : os[i]? = some o) : CntRef.CIs W w0.heap.size o.1 o.2.1 o.2.2 ∧ (o.2.2 = [] → o.2.1 = .slice none 0 0) :=
  Sep.ok h (obI w0.heap.size o) (List.mem_cons_of_mem _ (List.mem_cons_of_mem _ (List.mem_cons_of_mem _ (List.mem_map.2 ⟨o, List.mem_of_getElem? hi, rfl⟩))))
theorem KQ.done (h : KQ LL w0 p S j dv mv os ms W) (hl : 0 < os.length) : ∃ g cap, dv = .slice (some ⟨g, 0, none⟩) os.length cap ∧ os.length ≤ cap ∧ cap ≤ maxLen ∧ ∀ (i : Nat) (o : Ob), os[i]? = some o → W.cell? ⟨g, i, none⟩ = some (.pointer (some ⟨o.1, 0, none⟩)) := by
  obtain ⟨g, cap, e, h1, h2, h3⟩ := own_row1 ptrV_len (Sep.p1 h) (by rw [List.length_map]; exact hl)
  rw [List.length_map] at e h1
  exact ⟨g, cap, e, h1, h2, fun i o ho => h3 i o.1 _ (by rw [List.getElem?_map, ho]; rfl) rfl⟩
theorem KQ.marks (h : KQ LL w0 p S j dv mv os ms W) (hl : 0 < ms.length) : ∃ g cap, mv = .slice (some ⟨g, 0, none⟩) ms.length cap ∧ ms.length ≤ cap ∧ cap ≤ maxLen ∧ ∀ (i m : Nat), ms[i]? = some m → W.cell? ⟨g, i, none⟩ = some (.int .i64 m) := by
  obtain ⟨g, cap, e, h1, h2, h3⟩ := own_row1 natV_len (Sep.p2 h) hl
  exact ⟨g, cap, e, h1, h2, fun i m hm => h3 i m _ hm rfl⟩
/-- What lies beside it while one more is made: the new counts ahead of all. -/
def KN (LL : Core Lg) (w0 : World) (g : Nat) (v : Value) (cs : Cs) (p : Value) (S : Nat → Prop) (j : LS) (dv mv : Value) (os : List Ob) (ms : List Nat) (W : World) : Prop :=
  M.Sep w0 w0.heap.size (cnI w0.heap.size g v cs :: logI LL w0.heap.size p S j :: rowI 1 ptrV w0.heap.size 35 dv (os.map (fun o : Ob => o.1)) :: rowI 1 natV w0.heap.size 3 mv ms :: os.map (obI w0.heap.size)) W
variable {g : Nat} {v : Value} {cs : Cs}
theorem KQ.twin (h : KQ LL w0 p S j dv mv os ms W) {g' : Nat} (ht : CntRef.Twin W w0.heap.size cs g' W') : ∃ v', KN LL w0 g' v' cs p S j dv mv os ms W' := by
  obtain ⟨v', h1, h2, h3, h4⟩ := ht
  exact ⟨v', Sep.add (i := cnI w0.heap.size g' v' cs) h h4 h1 h2⟩
theorem KN.tail (h : KN LL w0 g v cs p S j dv mv os ms W) : KQ LL w0 p S j dv mv os ms W := Sep.tail h
theorem KN.below (h : KN LL w0 g v cs p S j dv mv os ms W) (hb : Below W.heap.size W W') : KN LL w0 g v cs p S j dv mv os ms W' := Sep.below h hb
theorem KN.drew (h : KN LL w0 g v cs p S j dv mv os ms W) : KN LL w0 g v cs p S j dv mv os ms W.drew := Sep.drew h
theorem KN.lo (h : KN LL w0 g v cs p S j dv mv os ms W) : Below w0.heap.size w0 W := Sep.lo h
theorem KN.hb (h : KN LL w0 g v cs p S j dv mv os ms W) : w0.heap.size ≤ W.heap.size := Sep.hb h
theorem KN.ob (h : KN LL w0 g v cs p S j dv mv os ms W) : CntRef.CIs W w0.heap.size g v cs := Sep.p0 h
theorem KN.raise {s : ByteArray} {x : Int} (h : KN LL w0 g v cs p S j dv mv os ms W) (ha : CntRef.After W w0.heap.size g v cs s x W') : ∃ v' cs', CntRef.ofC cs' = raiF (CntRef.ofC cs) cs.length s x ∧ cs'.length = raiK (CntRef.ofC cs) cs.length s x ∧ KN LL w0 g v' cs' p S j dv mv os ms W' := by
  obtain ⟨v', cs', h1, h2, h3, h4, h5⟩ := ha
  exact ⟨v', cs', h2, h3, Sep.step (i' := cnI w0.heap.size g v' cs') h h1 h4 h5⟩
/-- The log's own calls, with the new counts ahead of it. -/
theorem KN.front (h : KN LL w0 g v cs p S j dv mv os ms W) : M.Sep w0 w0.heap.size (logI LL w0.heap.size p S j :: cnI w0.heap.size g v cs :: rowI 1 ptrV w0.heap.size 35 dv (os.map (fun o : Ob => o.1)) :: rowI 1 natV w0.heap.size 3 mv ms :: os.map (obI w0.heap.size)) W := Sep.perm h (List.Perm.swap _ _ _)
theorem KN.back (h : M.Sep w0 w0.heap.size (logI LL w0.heap.size p S j :: cnI w0.heap.size g v cs :: rowI 1 ptrV w0.heap.size 35 dv (os.map (fun o : Ob => o.1)) :: rowI 1 natV w0.heap.size 3 mv ms :: os.map (obI w0.heap.size)) W) : KN LL w0 g v cs p S j dv mv os ms W := Sep.perm h (List.Perm.swap _ _ _)
/-- One more of each list. -/
def KP (LL : Core Lg) (w0 : World) (g : Nat) (v : Value) (cs : Cs) (p : Value) (S : Nat → Prop) (j : LS) (dv mv : Value) (os : List Ob) (ms : List Nat) (W : World) : Prop :=
  M.Sep w0 w0.heap.size (cnI w0.heap.size g v cs :: logI LL w0.heap.size p S j :: rowI 1 ptrV w0.heap.size 35 dv (os.map (fun o : Ob => o.1) ++ [g]) :: rowI 1 natV w0.heap.size 3 mv ms :: os.map (obI w0.heap.size)) W
theorem KN.own (h : KN LL w0 g v cs p S j dv mv os ms W) : OwnR 1 ptrV W w0.heap.size 35 dv (os.map (fun o : Ob => o.1)) := Sep.p2 h
theorem KN.push (h : KN LL w0 g v cs p S j dv mv os ms W) (hn : OwnR 1 ptrV W' w0.heap.size 35 dv' (os.map (fun o : Ob => o.1) ++ [g])) (hg : W.grownBy W' dv.ownBlock) (hat : dv'.ownBlock = dv.ownBlock ∨ dv'.ownBlock = some W.heap.size) : KP LL w0 g v cs p S j dv' mv os ms W' :=
  (Sep.grow (Sep.perm h (List.perm_middle (l₁ := [_, _]))) hn hg hat).perm (List.perm_middle (l₁ := [_, _])).symm
theorem KP.below (h : KP LL w0 g v cs p S j dv mv os ms W) (hb : Below W.heap.size W W') : KP LL w0 g v cs p S j dv mv os ms W' := Sep.below h hb
theorem KP.lo (h : KP LL w0 g v cs p S j dv mv os ms W) : Below w0.heap.size w0 W := Sep.lo h
theorem KP.hb (h : KP LL w0 g v cs p S j dv mv os ms W) : w0.heap.size ≤ W.heap.size := Sep.hb h
theorem KP.lg (h : KP LL w0 g v cs p S j dv mv os ms W) : Lg W w0.heap.size p S j := Sep.p1 h
theorem KP.own (h : KP LL w0 g v cs p S j dv mv os ms W) : OwnR 1 natV W w0.heap.size 3 mv ms := Sep.p3 h
theorem KP.push {m : Nat} (h : KP LL w0 g v cs p S j dv mv os ms W) (hc : ¬ cs = []) (hn : OwnR 1 natV W' w0.heap.size 3 mv' (ms ++ [m])) (hg : W.grownBy W' mv.ownBlock) (hat : mv'.ownBlock = mv.ownBlock ∨ mv'.ownBlock = some W.heap.size) : KQ LL w0 p S j dv mv' (os ++ [(g, v, cs)]) (ms ++ [m]) W' := by
  have h1 := (Sep.grow (Sep.perm h (List.perm_middle (l₁ := [_, _, _]))) hn hg hat).perm (List.perm_middle (l₁ := [_, _, _])).symm
  have h2 : M.Sep w0 w0.heap.size (obI w0.heap.size (g, v, cs) :: logI LL w0.heap.size p S j :: rowI 1 ptrV w0.heap.size 35 dv (os.map (fun o : Ob => o.1) ++ [g]) :: rowI 1 natV w0.heap.size 3 mv' (ms ++ [m]) :: os.map (obI w0.heap.size)) W' :=
    Sep.step (i' := obI w0.heap.size (g, v, cs)) h1 ⟨h1.p0, fun e => absurd e hc⟩ (Only.refl _ _) (fun k hk => Or.inl hk)
  have h3 := h2.perm (List.perm_append_comm (l₁ := [obI w0.heap.size (g, v, cs)]) (l₂ := logI LL w0.heap.size p S j :: rowI 1 ptrV w0.heap.size 35 dv (os.map (fun o : Ob => o.1) ++ [g]) :: rowI 1 natV w0.heap.size 3 mv' (ms ++ [m]) :: os.map (obI w0.heap.size)))
  unfold KQ
  rw [List.map_append, List.map_append]
  exact h3
/-- Cut shorter. -/
theorem KQ.cut {gd nd cd gm nm' cm : Nat} (h : KQ LL w0 p S j (.slice (some ⟨gd, 0, none⟩) nd cd) (.slice (some ⟨gm, 0, none⟩) nm' cm) os ms W) (m : Nat) (h1 : m ≤ os.length) (h2 : m ≤ ms.length) : KQ LL w0 p S j (.slice (some ⟨gd, 0, none⟩) m cd) (.slice (some ⟨gm, 0, none⟩) m cm) (os.take m) (ms.take m) W := by
  have e1 : OwnR 1 ptrV W w0.heap.size 35 (.slice (some ⟨gd, 0, none⟩) m cd) ((os.map (fun o : Ob => o.1)).take m) := own_trunc ptrV_len (Sep.p1 h) m (by rw [List.length_map]; exact h1)
  have e2 := own_trunc natV_len (Sep.p2 h) m h2
  rw [← List.map_take] at e1
  have s1 := Sep.step1 (W' := W) (i' := rowI 1 ptrV w0.heap.size 35 (.slice (some ⟨gd, 0, none⟩) m cd) ((os.take m).map (fun o : Ob => o.1))) h e1 (Only.refl _ _) (fun k hk => Or.inl hk)
  have s2 := Sep.step2 (W' := W) (i' := rowI 1 natV w0.heap.size 3 (.slice (some ⟨gm, 0, none⟩) m cm) (ms.take m)) s1 e2 (Only.refl _ _) (fun k hk => Or.inl hk)
  refine sep_sub s2 ?_
  refine List.Sublist.cons_cons _ (List.Sublist.cons_cons _ (List.Sublist.cons_cons _ ?_))
  rw [List.map_take]
  exact List.take_sublist _ _
end Ob
end Go.Proofs.YtgnpffkfbacejaaGreatDoor.Log
