/-
  The reference's desk in memory: counts and a bank in one block; its words; what is so behind a line.
-/
import Derived.Test.YtjkcplpmhjnahaaGreatDoorPack1
import Derived.Test.YtjkcplpmhjnahaaGreatDoorQCntRef2
import Derived.Test.YtjkcplpmhjnahaaGreatDoorQRowOne
import Derived.Test.YtjkcplpmhjnahaaGreatDoorQRef2
import Derived.Test.YtjkcplpmhjnahaaGreatDoorQKeyRef2
import Derived.Test.YtjkcplpmhjnahaaGreatDoorQRunRef2
import Derived.Deep.RegionHeld3
import Derived.Deep.LoopGhost
namespace Go.Proofs.YtjkcplpmhjnahaaGreatDoor.Desk
open Go.ChangeShapes Go.WideShapes Go.ChangeAt Go.RowKit
open Go.Proofs.YtjkcplpmhjnahaaGreatDoor.M
set_option linter.unusedVariables false

def txtV (s : ByteArray) : List Value := [.string s]
theorem txtV_len (s : ByteArray) : (txtV s).length = 1 := rfl
theorem own_txt {w : World} {B : Nat} {T : TypeId} {v : Value} {xs : List ByteArray} (h : OwnS w B T v xs) : OwnR 1 txtV w B T v xs := by
  have e : ∀ ys : List ByteArray, ys.map Value.string = ys.flatMap txtV := by
    intro ys
    induction ys with
    | nil => rfl
    | cons x r ih => rw [List.map_cons, List.flatMap_cons, ih]; rfl
  unfold OwnS at h
  rw [e] at h
  exact h
theorem words_keep {w1 : World} {B : Nat} {T : TypeId} {gw cw : Nat} {ps : List ByteArray} (h : OwnR 1 txtV w1 B T (.slice (some ⟨gw, 0, none⟩) ps.length cw) ps) : ∀ W, Below w1.heap.size w1 W → ∀ (k : Nat) (x : ByteArray), ps[k]? = some x → W.cell? ⟨gw, k, none⟩ = some (.string x) := by
  intro W hb k x hx
  obtain ⟨g, cap, e, _, _, hc⟩ := own_row1 txtV_len (h.below hb) (by have := (List.getElem?_eq_some_iff.1 hx).1; omega)
  cases e
  exact hc k x _ hx rfl
theorem words_split {ps : List ByteArray} {k : List UInt8} {r : List (List UInt8)} (h : ps.map (fun x => x.data.toList) = k :: r) : ∃ p0 pr, ps = p0 :: pr ∧ p0.data.toList = k ∧ pr.map (fun x : ByteArray => x.data.toList) = r := by
  match ps, h with
  | p0 :: pr, h =>
    rw [List.map_cons] at h
    exact ⟨p0, pr, rfl, (List.cons.inj h).1, (List.cons.inj h).2⟩
theorem lit_yes {p q : ByteArray} (h : p.data.toList = q.data.toList) : (p.toList == q.toList) = true := by
  rw [CntRef.byte_ext h]
  exact beq_self_eq_true _
theorem lit_no {p q : ByteArray} (h : ¬ p.data.toList = q.data.toList) : (p.toList == q.toList) = false := CntRef.str_ne (fun e => h (by rw [e]))
theorem lst_yes {p : ByteArray} {l : List UInt8} (h : p.data.toList = l) : (p.toList == l) = true := by rw [Lib.toList_data, h]; exact beq_self_eq_true _
theorem lst_no {p : ByteArray} {l : List UInt8} (h : ¬ p.data.toList = l) : (p.toList == l) = false := by rw [Lib.toList_data]; exact beq_eq_false_iff_ne.2 h
theorem row_cell {W : World} {b : Nat} {a : Option Addr} {xs : List Int} (h : Row W a xs) {i : Nat} {y : Int} (hy : xs[i]? = some y) : ∃ b off, a = some ⟨b, off, none⟩ ∧ W.cell? ⟨b, off + i, none⟩ = some (.int .i64 y) := by
  rcases h with h | ⟨b, off, h1, h2⟩
  · rw [h] at hy; simp at hy
  · exact ⟨b, off, h1, h2 i y hy⟩
theorem info_int : (Tryz.prog.info? 3).map (fun i => (i.zero, i.size, i.bytes)) = some (some (.int .i64 0), 1, 8) := by kernel_rfl
/-- Numbers as ints. -/
def ints (ns : List Nat) : List Int := ns.map (fun n : Nat => (n : Int))
theorem ints_snoc (ns : List Nat) (n : Nat) : ints (ns ++ [n]) = ints ns ++ [(n : Int)] := by unfold ints; rw [List.map_append]; rfl
/-- A row of one int that was just laid. -/
theorem row_new (w : World) (n : Int) (T : TypeId) : Row (w.alloc (.cells #[.int .i64 n] T)) (some ⟨w.heap.size, 0, none⟩) [n] := Row.one _ _ _ (by rw [cell_of_row _ _ _ _ _ _ (blk_new w _)]; rfl)
/-- The desk: the counts ahead, the bank behind. -/
def DIs (W : World) (B g : Nat) (v : Value) (cs : List (ByteArray × Int)) (d : Dk) : Prop :=
  CntRef.CIx (d.b.map (Value.int .i64)) 32 W B g v cs ∧ d.f = CntRef.ofC cs ∧ d.k = cs.length ∧ d.b.length = 8 ∧ okAll d.b = true
theorem DIs.below {W W' : World} {B g : Nat} {v : Value} {cs : List (ByteArray × Int)} {d : Dk} (h : DIs W B g v cs d) (hb : Below W.heap.size W W') : DIs W' B g v cs d := ⟨h.1.below hb, h.2⟩
/-- What is so behind a line: the answer, and the desk. -/
def Post (w : World) (B g : Nat) (v : Value) (A : List UInt8 × Dk) (e : Ending) (w' : World) : Prop :=
  ∃ v' cs', e = .returned (.string { data := A.1.toArray }) ∧ DIs w' B g v' cs' A.2 ∧ Only (CntRef.cfoot g v) w w' ∧ ∀ b, CntRef.cfoot g v' b → CntRef.cfoot g v b ∨ w.heap.size ≤ b
theorem post_same {w w' : World} {B g : Nat} {v : Value} {cs : List (ByteArray × Int)} {d : Dk} {A : List UInt8 × Dk} {a : List UInt8} {e : Ending} (h : DIs w B g v cs d) (hb : Below w.heap.size w w') (hA : A = (a, d)) (he : e = .returned (.string { data := a.toArray })) : Post w B g v A e w' := by
  subst hA
  exact ⟨v, cs, he, h.below hb, Only.of_below hb, fun b hb => Or.inl hb⟩
end Go.Proofs.YtjkcplpmhjnahaaGreatDoor.Desk
