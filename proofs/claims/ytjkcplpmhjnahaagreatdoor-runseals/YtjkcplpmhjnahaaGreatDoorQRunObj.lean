/-
  Package run's Run: what it answers, and that memory that was there stays as it was.
-/
import Derived.Test.YtjkcplpmhjnahaaGreatDoorPack1
import Derived.Test.YtjkcplpmhjnahaaGreatDoorQRunIter
namespace Go.Proofs.YtjkcplpmhjnahaaGreatDoor.Run
open Go.ChangeShapes Go.WideShapes Go.ChangeAt Go.RowKit Go.Shelf
open Go.Proofs.YtjkcplpmhjnahaaGreatDoor.M Go.Proofs.YtjkcplpmhjnahaaGreatDoor.Image
set_option linter.unusedVariables false

attribute [local go_sem] Oper.semAt_some

/-- What Run leans on: the library's tables, errors.errorType, and run.errBad. -/
def HasR (w : World) : Prop := Has w ∧ As.Handle w ∧ ∃ bb, BadAt bb w
theorem HasR.base {w : World} (h : HasR w) : ∃ bb, Base w w.heap.size bb := by
  obtain ⟨h1, h2, bb, h3⟩ := h
  exact ⟨bb, fun W hW => h1.below hW, fun W hW => h2.below hW, fun W hW => h3.below hW⟩
theorem HasR.below {w w' : World} (h : HasR w) (hb : Below w.heap.size w w') : HasR w' := by
  obtain ⟨h1, h2, bb, h3⟩ := h
  exact ⟨h1.below hb, h2.below hb, bb, h3.below hb⟩
/-- Between two rounds: the desk behind what has come, its box, and the answers in the builder. -/
def RI (w : World) (z g mb gc n1 : Nat) (SC : Nat → Prop) (ys : List Ln) (W : World) : Prop :=
  Dsk W w.heap.size g mb gc SC (dkA dk0 (lnL ys)) ∧ Boxed W n1 37 (.pointer (some ⟨g, 0, none⟩)) ∧ Bld (n1 + 1) (runA dk0 (lnL ys)) W ∧ Below w.heap.size w W ∧ z ≤ W.heap.size
theorem RI.own {w : World} {z g mb gc n1 n : Nat} {SC : Nat → Prop} (hS : ∀ k, (k = g ∨ k = mb ∨ SC k) → k < n) (h1 : n1 < n) (hw : w.heap.size ≤ n) : OwnFrom n (RI w z g mb gc n1 SC) := by
  rintro ys W W' row ⟨i1, i2, i3, i4, i5⟩ hg hr
  have ho : Only (fun k => row = some k) W W' := only_grown hg
  refine ⟨i1.only ho (fun b hb e => ?_), ho.heap i2 (fun e => ?_), bld_keep i3 (fun k o hk h hc => ho.heap h (fun e => ?_)), ?_, Nat.le_trans i5 ho.size⟩
  · have h2 := (hr b e).1
    have h3 := hS b hb
    omega
  · have h2 := (hr n1 e).1
    omega
  · obtain ⟨_, o', h2, h3⟩ := hr k e
    rw [h] at h2
    rw [Option.some.inj h2] at hc
    rw [hc] at h3
    cases h3
  · exact i4.trans (ho.below i4.size (fun k e => Nat.le_trans hw (hr k e).1))
theorem others_keep {b n : Nat} {T : TypeId} {W W' : World} (h : Lib.OthersKept T (some b) W W') (hb : Below b W W') (hlt : b < n) : KeepsFrom n W W' :=
  ⟨hb.size, fun k o hk hh ho => h k o hh (fun e => by have := Option.some.inj e; omega) (fun c fz e => by rw [e] at ho; cases ho)⟩
/-- The end of a round. -/
theorem round_end {w W w5 w6 : World} {z g mb gc n1 n : Nat} {SC : Nat → Prop} {pre : List Ln} {x : Ln} (hi : RI w z g mb gc n1 SC pre W) (hS : ∀ k, (k = g ∨ k = mb ∨ SC k) → k < n1) (hn : n1 + 1 < n) (hw : w.heap.size ≤ n1)
    (hD : Dsk w5 w.heap.size g mb gc SC (lineA (dkA dk0 (lnL pre)) x.1.data.toList).2) (hO : Only (DS g SC) W w5)
    (hB : Bld (n1 + 1) (runA dk0 (lnL pre) ++ ((lineA (dkA dk0 (lnL pre)) x.1.data.toList).1 ++ [10])) w6) (hb : Below (n1 + 1) w5 w6) (ho : Lib.OthersKept 5 (some (n1 + 1)) w5 w6) :
    KeepsFrom n W w6 ∧ KpS (fun _ => False) W w6 ∧ RI w z g mb gc n1 SC (pre ++ [x]) w6 := by
  obtain ⟨i1, i2, i3, i4, i5⟩ := hi
  have hlt := blk_lt i2
  have hn1 : ¬ DS g SC n1 := fun hs => by
    have := hS n1 (by rcases hs with hs | hs; exact Or.inl hs; exact Or.inr (Or.inr hs))
    omega
  refine ⟨(keepsFrom_only hO (fun k hk => ?_)).trans (others_keep ho hb hn), fun k hk => hk.elim, ?_, ?_, ?_, ?_, ?_⟩
  · have := hS k (by rcases hk with hk | hk; exact Or.inl hk; exact Or.inr (Or.inr hk))
    omega
  · rw [lnL_snoc, (runA_snoc _ _ _).2]
    refine hD.only (S := fun k => n1 + 1 ≤ k) ⟨hb.os, hb.tape, hb.output, hb.size, fun k _ hk => hb.block k (by omega)⟩ (fun b hb' hk => ?_)
    have := hS b hb'
    omega
  · have e5 : Boxed w5 n1 _ _ := hO.heap i2 hn1
    exact (hb.block n1 (by omega)).trans e5
  · rw [lnL_snoc, (runA_snoc _ _ _).1]
    exact hB
  · refine (i4.trans (hO.below i4.size (fun k hk => ?_))).trans (hb.mono (by omega))
    rcases hk with rfl | hk
    · exact i1.lo.1
    · exact (i1.has k (Or.inr (Or.inr hk))).1
  · exact Nat.le_trans i5 (Nat.le_trans hO.size hb.size)
theorem dig_size2 (l : List UInt8) : ({ data := l.toArray } : ByteArray).size = l.length := by simp [ByteArray.size]
theorem app_ten (l : List UInt8) : ({ data := l.toArray } : ByteArray) ++ { data := #[10] } = { data := (l ++ [10]).toArray } := by
  rw [show ({ data := #[10] } : ByteArray) = { data := [10].toArray } from rfl, Ref.append_text]
set_option maxRecDepth 100000 in
set_option maxHeartbeats 8000000 in
theorem run_any (s : ByteArray) (w : World) (hs : s.size ≤ 3000) (hh : HasR w) :
    Calls Tryz.prog 6 #[.string s] w fun e w' => e = .returned (.string { data := (runA dk0 (linesL s.data.toList)).toArray }) ∧ Below w.heap.size w w' := by
  obtain ⟨bb, hbase⟩ := hh.base
  have HBS := hide hbase
  have hsz : ¬ (3000 : Int) < s.size := by omega
  have HSZ := hide hs
  clear hh hbase hs
  refine (callsIn_wide (n := 6)).1 ?_
  refine callsIn_of_wp_marks Tryz.func6 rfl trivial ?_ rfl
  simp only [Tryz.ntmps6, List.size_toArray, List.length_cons, List.length_nil, Nat.reduceAdd, Nat.reduceSub, Array.replicate_succ, Array.replicate_zero, List.push_toArray, List.append_toArray, List.nil_append, List.cons_append]
  refine wpIn_wide.2 ?_
  go_wp2_with (fail)
  refine (newDesk_any w w.heap.size (Nat.le_refl _)).mono ?_
  rintro e w1 ⟨g, mb, gc, SC, rfl, hD, hS, hb1⟩
  go_wp2_with (go_at_call 11; refine (lines_any s _).mono ?_; rintro e w4 ⟨rfl, rfl⟩)
  obtain ⟨n1, hn1⟩ : ∃ n1, w1.heap.size = n1 := ⟨_, rfl⟩
  have hs1 := hb1.size
  obtain ⟨W0, hW0⟩ : ∃ W0, W0 = ((w1.alloc (.cells #[.pointer (some ⟨g, 0, none⟩)] 37)).alloc (.cells #[.pointer none, .slice none 0 0] 42)).alloc (.cells #[.string s] 9) := ⟨_, rfl⟩
  have hz : W0.heap.size = n1 + 3 := by rw [hW0, ← hn1]; simp
  have b3 : Boxed W0 n1 37 (.pointer (some ⟨g, 0, none⟩)) := by rw [hW0, ← hn1]; exact ((Boxed.new w1 _ _).alloc _).alloc _
  have bB : Bld (n1 + 1) [] W0 := by
    have h1 := bld_new (w1.alloc (.cells #[.pointer (some ⟨g, 0, none⟩)] 37))
    rw [show (w1.alloc (.cells #[.pointer (some ⟨g, 0, none⟩)] 37)).heap.size = n1 + 1 by rw [← hn1]; simp] at h1
    rw [hW0]
    exact bld_keep h1 (fun k o _ h _ => blk_keep h _)
  have b5 : Boxed W0 (n1 + 1 + 1) 9 (.string s) := by
    have h1 := Boxed.new ((w1.alloc (.cells #[.pointer (some ⟨g, 0, none⟩)] 37)).alloc (.cells #[.pointer none, .slice none 0 0] 42)) 9 (.string s)
    rw [hW0, ← hn1]
    simpa using h1
  have hbW : Below w1.heap.size w1 W0 := by rw [hW0]; exact below_on (below_on (below_new _ _) (below_new _ _)) (below_new _ _)
  have hbw : Below w.heap.size w W0 := hb1.trans (hbW.mono hs1)
  have hSl : ∀ k, (k = g ∨ k = mb ∨ SC k) → k < n1 := fun k hk => by rw [← hn1]; exact (hD.has k hk).2
  have h0 : RI w W0.heap.size g mb gc n1 SC ([] : List Ln) W0 := ⟨hD.below hbW, b3, bB, hbw, Nat.le_refl _⟩
  have hq := iter_any 5 (by decide) s HSZ.out (n1 + 1 + 1) W0 b5
  have hwn : w.heap.size ≤ n1 := by omega
  have HLN : Hid ((linesL s.data.toList).length ≤ 3001) := by
    have h1 := lines_len s.data.toList
    rw [len_size] at h1
    have := HSZ.out
    show (linesL s.data.toList).length ≤ 3001
    omega
  rw [← hW0, hn1]
  clear hW0 b3 bB b5 hbW hbw hb1 hD hs1 hS
  refine (wpIn_wide (n := 6)).1 ?_
  refine wpIn_rangeFunc_ownH rfl (by decide) (gf := 30) (lb := #[.pointer (some ⟨n1 + 1 + 1, 0, none⟩)]) rfl trivial (enters_of Tryz.func30 (by kernel_rfl) rfl) hq kpS_t (kpS_b (n := W0.heap.size) (fun k hk => hk.elim)) (Below.refl _ _) (fun _ => rfl)
    (RI w W0.heap.size g mb gc n1 SC) (fun _ _ _ => False) (RI.own (fun k hk => by have := hSl k hk; omega) (by omega) (by omega)) (fun _ _ _ _ _ hs _ _ => hs) h0
    (fun x a' W => a' = { tmps := #[.string s, undef, .string { data := #[] }, .pointer (some ⟨n1, 0, none⟩), .pointer (some ⟨n1 + 1, 0, none⟩), .string x.1, .string s, .int .i64 s.size, .bool false, .pointer (some ⟨g, 0, none⟩), .string s, .func (.func 30) #[] #[.pointer (some ⟨n1 + 1 + 1, 0, none⟩)], .string x.1, undef, undef, undef, undef, undef, undef], defers := [] })
    (fun x a' _ X Y row hs hg hr => hs) ?assign ?body ?done ?stop
  case assign =>
    rintro l pre x W K' hi hK'
    gi_wp2
    exact hK' _ _ (keepsFrom_only (Only.refl (fun _ => False) W) (fun _ h => h.elim)) (fun k hk => rfl) hi rfl
  case body =>
    rintro l pre x a' W hl ⟨r, hr'⟩ hi rfl hlt
    have c3 := hi.2.1.cell
    have hAL := lineA_len (dkA dk0 (lnL pre)) x.1.data.toList
    have hRL : (runA dk0 (lnL pre)).length ≤ 63021 := by
      have h1 := runA_len (lnL pre) dk0
      have h2 : (lnL pre).length = pre.length := by unfold lnL; rw [List.length_map]
      have := HLN.out
      omega
    have AN := hide (answer_any W w.heap.size g mb gc bb SC _ x.1 (HBS.out.on hi.2.2.2.1) hi.1 x.2)
    have HI := hide hi
    have HSL := hide hSl
    obtain ⟨tx, htx⟩ : ∃ tx : ByteArray, tx = { data := (lineA (dkA dk0 (lnL pre)) x.1.data.toList).1.toArray } := ⟨_, rfl⟩
    have htz : tx.size ≤ 20 := by rw [htx, dig_size2]; exact hAL
    have HTX : Hid ((tx ++ { data := #[10] }).data.toList = (lineA (dkA dk0 (lnL pre)) x.1.data.toList).1 ++ [10]) := by
      show (tx ++ { data := #[10] }).data.toList = _
      rw [htx, app_ten]
    have hq1 : ¬ 9223372036854775807 < tx.size + 1 := by omega
    have WR := hide (fun (w5 : World) (hO : Only (DS g SC) W w5) => write_any (n1 + 1) (runA dk0 (lnL pre)) (tx ++ { data := #[10] }) w5 (bld_keep hi.2.2.1 (fun k o hk h hc => hO.heap h (fun hs => by
      have := hSl k (by rcases hs with hs | hs; exact Or.inl hs; exact Or.inr (Or.inr hs))
      omega))) (by have h1 := congrArg List.length HTX.out; rw [len_size, List.length_append] at h1; simp only [List.length_cons, List.length_nil] at h1; omega))
    unfold Told at AN
    rw [← htx] at AN
    clear hi hSl hq h0 hAL hRL htx htz hr'
    gi_wp2_with (first | (refine ⟨trivial, ?_⟩; gi_at_call 13; refine (CallsIn.inRound l (callsIn_wide.2 AN.out)).mono ?_; rintro e w5 ⟨rfl, hD5, hO5⟩) | (refine ⟨trivial, ?_⟩; gi_at_call 12; refine (CallsIn.inRound l (callsIn_wide.2 (WR.out w5 hO5))).mono ?_; rintro e w6 ⟨rfl, hB6, hb6, ho6⟩))
    rw [HTX.out] at hB6
    exact round_end HI.out HSL.out (by omega) hwn hD5 hO5 hB6 hb6 ho6
  case done =>
    rintro D ys W hDz hys hi hK'
    have ST := hide (string_any (n1 + 1) _ W hi.2.2.1)
    have hys2 : lnL ys = linesL s.data.toList := hys
    rw [hys2] at ST
    have HI4 := hide hi.2.2.2.1
    have HK' := hide hK'
    clear hi hK' hys hys2 hq h0 hSl
    go_wp2_with (fail)
    refine ST.out.mono ?_
    rintro e w5 ⟨rfl, hb5, ho5⟩
    have hK5 := ho5 D _ HK'.out (fun e => by have := Option.some.inj e; omega) (fun c fz e => by cases e)
    have HB5 := hide (HI4.out.trans (hb5.mono (by omega)))
    clear hb5 ho5
    go_wp2_with (fail)
    refine ⟨by simp, .inl ⟨_, _, rfl, run_takeDeferred hK5, ?_⟩⟩
    exact ⟨_, results_tmp rfl _ _ _, rfl, HB5.out.trans ((only_grown (grownBy_putObj' _ D (.deferred none))).below HB5.out.size (fun k hk => by
      have e : D = k := (by simpa using hk)
      omega))⟩
  case stop =>
    rintro D c pre W _ _ h _
    exact h.elim
theorem runLaw : RunLaw HasR := by
  intro s w hs hh
  by_cases hl : 3000 < s.size
  · have hT : ansT s.data.toList = tooLong := by unfold ansT; rw [if_pos (by rw [len_size]; exact hl)]
    rw [hT]
    have hlz : (3000 : Int) < s.size := by omega
    unfold tooLong
    clear hT hs hh hl
    go_enter Tryz.func6, Tryz.ntmps6
    go_wp2
    go_ret
    exact ⟨rfl, Below.refl _ _⟩
  · have hT : ansT s.data.toList = runA dk0 (linesL s.data.toList) := by unfold ansT; rw [if_neg (by rw [len_size]; exact hl)]
    rw [hT]
    exact run_any s w (by omega) hh
end Go.Proofs.YtjkcplpmhjnahaaGreatDoor.Run
