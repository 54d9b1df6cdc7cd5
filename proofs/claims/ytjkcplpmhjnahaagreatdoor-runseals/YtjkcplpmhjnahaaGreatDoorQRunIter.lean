/-
  Package run's lines: the iterator over a text's lines, for every loop body; and strings.Builder as Run writes it.
-/
import Derived.Test.YtjkcplpmhjnahaaGreatDoorQRunLine
import Derived.Test.YtjkcplpmhjnahaaGreatDoorQRangeKit
namespace Go.Proofs.YtjkcplpmhjnahaaGreatDoor.Run
open Go.ChangeShapes Go.WideShapes Go.ChangeAt Go.RowKit Go.Shelf
open Go.Proofs.YtjkcplpmhjnahaaGreatDoor.M Go.Proofs.YtjkcplpmhjnahaaGreatDoor.Image
set_option linter.unusedVariables false

attribute [local go_sem] Oper.semAt_some

theorem lines_any (s : ByteArray) (w : World) : Calls Tryz.prog 11 #[.string s] w fun e w' => e = .returned (.func (.func 30) #[] #[.pointer (some ⟨w.heap.size, 0, none⟩)]) ∧ w' = w.alloc (.cells #[.string s] 9) := by
  go_enter Tryz.func11, Tryz.ntmps11
  go_wp2
  go_ret
  exact ⟨rfl, rfl⟩
/-- A line of a text that is not too long. -/
abbrev Ln := { x : ByteArray // x.size ≤ 3000 }
def lnL (ys : List Ln) : List (List UInt8) := ys.map (fun y => y.1.data.toList)
theorem lnL_snoc (ys : List Ln) (x : Ln) : lnL (ys ++ [x]) = lnL ys ++ [x.1.data.toList] := by unfold lnL; rw [List.map_append]; rfl
def szV : Value → Nat
  | .string s => s.size
  | _ => 0
theorem grown_of_below {W W' : World} (h : Below W.heap.size W W') : W.grownBy W' none := ⟨h.os, h.tape, h.output, h.size, fun i hi _ => h.block i hi⟩
set_option maxRecDepth 100000 in
set_option maxHeartbeats 4000000 in
theorem iter_any (n : Nat) (hn : 1 ≤ n) (t : ByteArray) (ht : t.size ≤ 3000) (Bn : Nat) (W0 : World) (hb : Boxed W0 Bn 9 (.string t)) :
    SeqStopsK Fence.wide n Tryz.prog 30 #[.pointer (some ⟨Bn, 0, none⟩)] (fun x : Ln => #[Value.string x.1]) (KpS (fun _ => False)) (fun ys => lnL ys = linesL t.data.toList) (fun _ => True) (linesL t.data.toList).length W0 := by
  intro l J Jx W hW hJ hJx hY h0
  have hbW : W.cell? ⟨Bn, 0, none⟩ = some (.string t) := by
    rw [hW.cell (p := ⟨Bn, 0, none⟩) (blk_lt hb)]
    exact hb.cell
  have HY := hide hY
  have HJ := hide (fun (s : List Ln) (X X' : World) (hs : J s X) (hb : Below X.heap.size X X') => hJ s X X' none hs (grown_of_below hb) (fun r e => by cases e))
  clear hb hY hJ
  refine callsIn_of_wp Tryz.func30 rfl trivial ?_ rfl
  simp only [Tryz.ntmps30, List.size_toArray, List.length_cons, List.length_nil, Nat.reduceAdd, Nat.reduceSub, Array.replicate_succ, Array.replicate_zero, List.push_toArray, List.append_toArray, List.nil_append, List.cons_append]
  gi_wp2
  gi_loopw [3, 4, 5, 6] (fun s3 _ _ _ wr => ∃ (pre : List Ln) (rest : ByteArray), s3 = .string rest ∧ Hid (lnL pre ++ linesL rest.data.toList = linesL t.data.toList) ∧ Hid (rest.size ≤ 3000) ∧ J pre wr)
    (fun s3 _ _ _ _ => szV s3)
  case atStart => exact ⟨[], t, rfl, rfl, ht, h0⟩
  case round =>
    obtain ⟨pre, rest, rfl, HL, HR, hJs⟩ := hrel
    have HJs := hide hJs
    by_cases hz : rest.size = 0
    · have e0 := empty_is hz
      have HE : Hid (lnL pre = linesL t.data.toList) := by
        have h1 := HL.out
        rw [show rest.data.toList = [] from List.length_eq_zero_iff.1 (by rw [len_size]; exact hz), lines_nil, List.append_nil] at h1
        exact h1
      clear hz hJs
      gi_wp2
      go_end0
      exact ⟨⟨_, rfl⟩, .inl ⟨pre, HE.out, HJs.out⟩⟩
    · have e0 := empty_not hz
      obtain ⟨a, b, f, h1, h2, h3, hcall⟩ := cut_line rest wr hz HR.out
      have HLN : Hid (pre.length < (linesL t.data.toList).length) := by
        have h4 := congrArg List.length HL.out
        rw [h1, List.length_append, List.length_cons] at h4
        have h5 : (lnL pre).length = pre.length := by unfold lnL; rw [List.length_map]
        show pre.length < _
        omega
      have ha : a.size ≤ 3000 := Nat.le_trans h3 HR.out
      have HREL : Hid (lnL (pre ++ [⟨a, ha⟩]) ++ linesL b.data.toList = linesL t.data.toList) := by
        show lnL (pre ++ [⟨a, ha⟩]) ++ _ = _
        rw [lnL_snoc, ← HL.out, h1]
        simp
      have HB3 : Hid (b.size ≤ 3000 ∧ b.size < rest.size) := ⟨by have := HR.out; omega, h2⟩
      have HC := hide hcall
      clear hz hJs h1 h2 h3 hcall
      gi_wp2_with (refine ⟨trivial, ?_⟩; gi_at_call 31; refine (callsIn_wide.2 HC.out).mono ?_; rintro e w1 ⟨rfl, hb1⟩; obtain ⟨fn, tmps, assign, body, hy, hRR⟩ := HY.out pre ⟨a, ha⟩ w1 (HJ.out pre wr w1 HJs.out hb1) HLN.out)
      refine hRR.mono ?_
      rintro e W3 (⟨rfl, hJ3, hk3⟩ | ⟨rfl, hJx3⟩)
      · gi_wp2
        go_roundw
        case rel => exact ⟨pre ++ [⟨a, ha⟩], b, rfl, HREL, HB3.out.1, hJ3⟩
        case measure =>
          have := HB3.out.2
          show b.size < rest.size
          omega
      · gi_wp2
        refine bodyPost_ret (results_none rfl _ _ _) rfl ?_
        exact ⟨⟨_, rfl⟩, .inr ⟨pre ++ [⟨a, ha⟩], trivial, hJx3⟩⟩
/-- The builder: it lies in the block b, holds the bytes l, and its row lies behind. -/
def Bld (b : Nat) (l : List UInt8) (W : World) : Prop := Lib.IsBuilderF 42 5 b b (Lib.byteCells l) W
theorem bld_new (w : World) : Bld w.heap.size [] (w.alloc (.cells #[.pointer none, .slice none 0 0] 42)) :=
  Lib.IsBuilderF.of (Or.inl ⟨Nat.le_refl _, .slice none 0 0, blk_new _ _, World.ownsRow_nil _ _ _ _, by simp [Value.ownBlock]⟩)
/-- While its own blocks lie as they lay. -/
theorem bld_keep {b : Nat} {l : List UInt8} {W W' : World} (h : Bld b l W) (hk : ∀ (k : Nat) o, b ≤ k → W.heap[k]? = some o → o.isCells = true → W'.heap[k]? = some o) : Bld b l W' := by
  have key : ∀ p, Lib.BuilderAtF 42 5 b b p (Lib.byteCells l) W → Lib.BuilderAtF 42 5 b b p (Lib.byteCells l) W' := by
    rintro p ⟨h1, v, h2, ⟨h3, h4⟩, h5⟩
    refine ⟨h1, v, hk b _ (Nat.le_refl _) h2 rfl, ⟨h3, ?_⟩, h5⟩
    rcases h4 with h4 | ⟨g, cap, cur, fz, e1, e2, e3, e4⟩
    · exact Or.inl h4
    · exact Or.inr ⟨g, cap, cur, fz, e1, e2, hk g _ e2 e3 rfl, e4⟩
  rcases h with h | h
  · exact Or.inl (key _ h)
  · exact Or.inr (key _ h)
theorem bld_lt {b : Nat} {l : List UInt8} {W : World} (h : Bld b l W) : b < W.heap.size := by
  rcases h with ⟨_, v, h2, _⟩ | ⟨_, v, h2, _⟩
  · exact blk_lt h2
  · exact blk_lt h2
/-- What is written behind. -/
theorem write_any (b : Nat) (l : List UInt8) (s : ByteArray) (w : World) (h : Bld b l w) (hl : l.length + s.size ≤ 140737488355328) :
    Calls Tryz.prog 12 #[.pointer (some ⟨b, 0, none⟩), .string s] w fun e w' => e = .returned (.tuple #[.int .i64 s.size, .nilIface]) ∧ Bld b (l ++ s.data.toList) w' ∧ Below b w w' ∧ Lib.OthersKept 5 (some b) w w' := by
  refine (Any.Builder_WriteString_k { Tryz.lays156 with } extra b b (Lib.byteCells l) s w h (by rw [Lib.byteCells_length]; exact hl) (Nat.le_of_lt (bld_lt h))).mono ?_
  rintro e w' ⟨he, hB, hb, ho⟩
  refine ⟨he, Or.inr ?_, hb, ho⟩
  rw [Lib.byteCells_append, ← Lib.strCells_eq]
  exact hB
theorem string_any (b : Nat) (l : List UInt8) (w : World) (h : Bld b l w) :
    Calls Tryz.prog 14 #[.pointer (some ⟨b, 0, none⟩)] w fun e w' => e = .returned (.string { data := l.toArray }) ∧ Below b w w' ∧ Lib.OthersKept 5 (some b) w w' := by
  refine (Any.Builder_String_any_k { Tryz.lays156 with } extra b b l w h (Nat.le_of_lt (bld_lt h))).mono ?_
  rintro e w' ⟨he, _, hb, ho⟩
  exact ⟨he, hb, ho⟩
end Go.Proofs.YtjkcplpmhjnahaaGreatDoor.Run
