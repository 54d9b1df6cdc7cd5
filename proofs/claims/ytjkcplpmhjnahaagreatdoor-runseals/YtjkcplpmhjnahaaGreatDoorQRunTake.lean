/-
  Package run's (*desk).do at every word, and (*desk).take: a line's words to their layer.
-/
import Derived.Test.YtjkcplpmhjnahaaGreatDoorQRunDo2
import Derived.Test.YtjkcplpmhjnahaaGreatDoorQRunDo3
import Derived.Test.YtjkcplpmhjnahaaGreatDoorQRunDo4
import Derived.Test.YtjkcplpmhjnahaaGreatDoorQRunRead
namespace Go.Proofs.YtjkcplpmhjnahaaGreatDoor.Run
open Go.ChangeShapes Go.WideShapes Go.ChangeAt Go.RowKit
open Go.Proofs.YtjkcplpmhjnahaaGreatDoor.M Go.Proofs.YtjkcplpmhjnahaaGreatDoor.Image
set_option linter.unusedVariables false

theorem want_cases {l : List UInt8} {named : Bool} {m : Nat} (h : wantW l = some (named, m)) :
    (l = kwExtend ∧ named = false ∧ m = 2) ∨ (l = kwDigest ∧ named = false ∧ m = 1) ∨ (l = kwPublic ∧ named = false ∧ m = 1) ∨ (l = kwMeasure ∧ named = true ∧ m = 0) ∨ (l = kwRaise ∧ named = true ∧ m = 1) ∨ (l = kwMay ∧ named = true ∧ m = 1) ∨ (l = kwSign ∧ named = false ∧ m = 3) ∨ (l = kwCheck ∧ named = false ∧ m = 4) := by
  unfold wantW at h
  by_cases h1 : l = kwExtend
  · rw [if_pos h1] at h; cases h; exact Or.inl ⟨h1, rfl, rfl⟩
  rw [if_neg h1] at h
  by_cases h2 : l = kwDigest
  · rw [if_pos h2] at h; cases h; exact Or.inr (Or.inl ⟨h2, rfl, rfl⟩)
  rw [if_neg h2] at h
  by_cases h3 : l = kwPublic
  · rw [if_pos h3] at h; cases h; exact Or.inr (Or.inr (Or.inl ⟨h3, rfl, rfl⟩))
  rw [if_neg h3] at h
  by_cases h4 : l = kwMeasure
  · rw [if_pos h4] at h; cases h; exact Or.inr (Or.inr (Or.inr (Or.inl ⟨h4, rfl, rfl⟩)))
  rw [if_neg h4] at h
  by_cases h5 : l = kwRaise
  · rw [if_pos h5] at h; cases h; exact Or.inr (Or.inr (Or.inr (Or.inr (Or.inl ⟨h5, rfl, rfl⟩))))
  rw [if_neg h5] at h
  by_cases h6 : l = kwMay
  · rw [if_pos h6] at h; cases h; exact Or.inr (Or.inr (Or.inr (Or.inr (Or.inr (Or.inl ⟨h6, rfl, rfl⟩)))))
  rw [if_neg h6] at h
  by_cases h7 : l = kwSign
  · rw [if_pos h7] at h; cases h; exact Or.inr (Or.inr (Or.inr (Or.inr (Or.inr (Or.inr (Or.inl ⟨h7, rfl, rfl⟩))))))
  rw [if_neg h7] at h
  by_cases h8 : l = kwCheck
  · rw [if_pos h8] at h; cases h; exact Or.inr (Or.inr (Or.inr (Or.inr (Or.inr (Or.inr (Or.inr ⟨h8, rfl, rfl⟩))))))
  rw [if_neg h8] at h
  cases h
/-- What a line's work does, at every word. -/
theorem do_any (w : World) (B g mb gc : Nat) (SC : Nat → Prop) (d : Dk) (p0 nm : ByteArray) (nv : Value) (named : Bool) (m : Nat) (ns : List Nat) (a : Option Addr) (cap : Nat) (hW : wantW p0.data.toList = some (named, m)) (hl : ns.length = m) (h : Dsk w B g mb gc SC d) (hh : HasF w B)
    (hm : named = true → NameAt w g SC nv nm ∧ nm.size ≤ 3000) (hn : NumsAt w g SC a ns) (hb : ∀ n ∈ ns, n < 10000000) :
    Calls Tryz.prog 47 #[.pointer (some ⟨g, 0, none⟩), .string p0, nv, .slice a ns.length cap] w (Done w B g mb gc SC (doL d p0.data.toList (if named = true then nm.data.toList else []) ns)) := by
  rcases want_cases hW with ⟨e1, rfl, rfl⟩ | ⟨e1, rfl, rfl⟩ | ⟨e1, rfl, rfl⟩ | ⟨e1, rfl, rfl⟩ | ⟨e1, rfl, rfl⟩ | ⟨e1, rfl, rfl⟩ | ⟨e1, rfl, rfl⟩ | ⟨e1, rfl, rfl⟩
  · match ns, hl with
    | [n, m], _ => rw [e1]; exact do_extend w B g mb gc SC d p0 e1 h hh a cap nv n m hn (hb n (by simp)) (hb m (by simp))
  · match ns, hl with
    | [n], _ => rw [e1]; exact do_digest w B g mb gc SC d p0 e1 h hh a cap nv n hn
  · match ns, hl with
    | [n], _ => rw [e1]; exact do_public w B g mb gc SC d p0 e1 h hh a cap nv n hn
  · match ns, hl with
    | [], _ => rw [e1]; exact do_measure w B g mb gc SC d p0 e1 h hh a cap nv nm (hm rfl).1 (hm rfl).2
  · match ns, hl with
    | [n], _ => rw [e1]; exact do_raise w B g mb gc SC d p0 e1 h hh a cap nv nm n (hm rfl).1 (hm rfl).2 hn
  · match ns, hl with
    | [n], _ => rw [e1]; exact do_may w B g mb gc SC d p0 e1 h hh a cap nv nm n (hm rfl).1 (hm rfl).2 hn
  · match ns, hl with
    | [x, k, m], _ => rw [e1]; exact do_sign w B g mb gc SC d p0 e1 h hh a cap nv x k m hn
  · match ns, hl with
    | [q, m, p, s], _ => rw [e1]; exact do_check w B g mb gc SC d p0 e1 h hh a cap nv q m p s hn
/-- What is so behind a line: a text, or an error: an Errno, or the one of bad lines. -/
def Ans (w : World) (B g mb gc : Nat) (bb : Addr) (SC : Nat → Prop) (A : List UInt8 × Dk) (e : Ending) (w' : World) : Prop :=
  (∃ (t : ByteArray) (v : Value), e = .returned (.tuple #[.string t, v]) ∧ ((v = .nilIface ∧ A.1 = t.data.toList) ∨ (∃ k : Int, 1 ≤ k ∧ k ≤ 9 ∧ v = .iface 98 (.int .i64 k) ∧ A.1 = errN k) ∨ (v = badV bb ∧ A.1 = ansBad))) ∧ Dsk w' B g mb gc SC A.2 ∧ Only (DS g SC) w w'
theorem ans_done {w W w' : World} {B g mb gc : Nat} {bb : Addr} {SC : Nat → Prop} {A : List UInt8 × Dk} {e : Ending} (hW : Kb w W) (h : Done W B g mb gc SC A e w') : Ans w B g mb gc bb SC A e w' := by
  obtain ⟨⟨t, k, h0, h9, he, hA⟩, hD, hO⟩ := h
  refine ⟨⟨t, _, he, ?_⟩, hD, (Only.of_below (S := DS g SC) hW).trans hO (fun _ _ hk => hk)⟩
  by_cases hk : k = 0
  · subst hk
    exact Or.inl ⟨rfl, hA⟩
  · refine Or.inr (Or.inl ⟨k, by omega, h9, ?_, ?_⟩)
    · unfold errV; rw [if_neg hk]
    · rw [hA, if_neg hk]
theorem ans_bad {w w' : World} {B g mb gc : Nat} {bb : Addr} {SC : Nat → Prop} {d : Dk} {A : List UInt8 × Dk} {e : Ending} {t : ByteArray} (h : Dsk w B g mb gc SC d) (hb : Kb w w') (hA : A = (ansBad, d)) (he : e = .returned (.tuple #[.string t, badV bb])) : Ans w B g mb gc bb SC A e w' := by
  subst hA
  exact ⟨⟨t, _, he, Or.inr (Or.inr ⟨rfl, rfl⟩)⟩, h.below hb, Only.of_below hb⟩
/-- The numbers read lie apart from the desk. -/
theorem nums_own {w W : World} {B g mb gc base : Nat} {SC : Nat → Prop} {d : Dk} {v : Value} {ns : List Nat} (h : Dsk w B g mb gc SC d) (hbase : w.heap.size ≤ base) (hw : w.heap.size ≤ W.heap.size) (ho : Own W base 3 v (intL ns)) :
    ∃ a cap, v = .slice a ns.length cap ∧ NumsAt W g SC a ns := by
  obtain ⟨a, cap, e, _, _⟩ := ho.row
  have hlen : (intL ns).length = ns.length := by unfold intL; rw [List.length_map]
  rw [hlen] at e
  refine ⟨a, cap, e, ?_⟩
  cases ns with
  | nil => exact Or.inl rfl
  | cons n ns =>
    refine Or.inr ?_
    rcases ho.2 with ⟨_, h0⟩ | ⟨gb, cap2, cur, e2, hb2, h3, _⟩
    · rw [hlen] at h0; cases h0
    · rw [e] at e2
      injection e2 with e2 _ _
      refine ⟨gb, 0, e2, fun W' hW' k x hx => ?_⟩
      obtain ⟨a', cap', e', _, hrow⟩ := (ho.only hW' (fun k hk hS => by
        rw [e, e2] at hk
        have hk : gb = k := Option.some.inj hk
        subst hk
        have := h.has gb (by rcases hS with hS | hS; exact Or.inl hS; exact Or.inr (Or.inr hS))
        omega) : Own W' base 3 v (intL (n :: ns))).row
      rw [e, e2] at e'
      injection e' with e' _ _
      rcases hrow with hr | ⟨b, off, h1, h2⟩
      · cases hr
      · rw [← e'] at h1
        injection h1 with h1
        injection h1 with h1 h1b _
        subst h1
        subst h1b
        refine h2 k x ?_
        unfold intL
        rw [List.getElem?_map, hx]
        rfl
theorem kb_new (w : World) (o : Obj) : Kb w (w.alloc o) := below_new w o
/-- What take may lean on. -/
structure Given (w : World) (B g mb gc : Nat) (bb : Addr) (SC : Nat → Prop) (d : Dk) : Prop where
  desk : Dsk w B g mb gc SC d
  has : HasF w B
  bad : BadAt bb w
set_option maxRecDepth 100000 in
set_option maxHeartbeats 4000000 in
theorem take_none (w : World) (B g mb gc : Nat) (bb : Addr) (SC : Nat → Prop) (d : Dk) (p0 : ByteArray) (ov : Value) (h : Given w B g mb gc bb SC d) (hp : p0.size ≤ 3000) (hW : wantW p0.data.toList = none) (A : List UInt8 × Dk) (hA : A = (ansBad, d)) :
    Calls Tryz.prog 34 #[.pointer (some ⟨g, 0, none⟩), .string p0, ov] w (Ans w B g mb gc bb SC A) := by
  have HD := hide h.desk
  have HBD := hide (fun (W : World) (hW : Kb w W) => (h.bad.below hW).1)
  have hV : wantV p0.data.toList = (0, 0, false) := by unfold wantV; rw [hW]
  have lk := wmap_look h.desk.map p0 (by omega)
  rw [hV] at lk
  have c9 := h.desk.c9
  have HA := hide hA
  have b1 := HBD.out (w.alloc (.cells #[.int .i64 0, .int .i64 0] 70)) (below_new _ _)
  clear h hV hW hp hA
  go_enter Tryz.func34, Tryz.ntmps34
  go_wp2_with (fail)
  go_region
  all_goals
    go_wp2
    go_ret2
    exact ans_bad HD.out (by with_reducible repeat (first | exact kb_new _ _ | apply kb_drew)) HA.out rfl
set_option maxRecDepth 100000 in
set_option maxHeartbeats 4000000 in
theorem take_wrong (w : World) (B g mb gc : Nat) (bb : Addr) (SC : Nat → Prop) (d : Dk) (p0 : ByteArray) (a : Option Addr) (n cap : Nat) (nz mz : Int) (h : Given w B g mb gc bb SC d) (hp : p0.size ≤ 3000) (hV : wantV p0.data.toList = (nz, mz, true)) (h0 : 0 ≤ nz) (h1 : 0 ≤ mz) (h2 : nz ≤ 1) (h3 : mz ≤ 4) (hn : n ≤ 3001) (hne : ¬ (n : Int) = nz + mz) (A : List UInt8 × Dk) (hA : A = (ansBad, d)) :
    Calls Tryz.prog 34 #[.pointer (some ⟨g, 0, none⟩), .string p0, .slice a n cap] w (Ans w B g mb gc bb SC A) := by
  have HD := hide h.desk
  have HBD := hide (fun (W : World) (hW : Kb w W) => (h.bad.below hW).1)
  have lk := wmap_look h.desk.map p0 (by omega)
  rw [hV] at lk
  have c9 := h.desk.c9
  have HA := hide hA
  have b1 := HBD.out (w.alloc (.cells #[.int .i64 nz, .int .i64 mz] 70)) (kb_new _ _)
  have hw : IntKind.i64.wrap (nz + mz) = nz + mz := wrap_mid (by omega) (by omega)
  obtain ⟨lz, hlz⟩ : ∃ lz : Int, lz = (n : Int) := ⟨_, rfl⟩
  have hq : (lz == nz + mz) = false := by rw [hlz]; exact beq_eq_false_iff_ne.2 hne
  rw [← hlz] at hne
  clear h hV hp hA hn h0 h1 h2 h3
  go_enter Tryz.func34, Tryz.ntmps34
  rw [hlz] at hq hne
  go_wp2_with (fail)
  go_region
  all_goals
    go_wp2
    go_ret2
    exact ans_bad HD.out (by with_reducible repeat (first | exact kb_new _ _ | apply kb_drew)) HA.out rfl
end Go.Proofs.YtjkcplpmhjnahaaGreatDoor.Run
