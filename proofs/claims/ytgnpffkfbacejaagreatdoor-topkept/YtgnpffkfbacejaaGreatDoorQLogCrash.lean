/-
  Package log's Crash: what is left of the bytes, and the counts that the records left make.
-/
import Derived.Test.YtgnpffkfbacejaaGreatDoorQLogIter
import Derived.BigQuiet
import Derived.WalkSmall
namespace Go.Proofs.YtgnpffkfbacejaaGreatDoor.Log
open Go.ChangeShapes Go.WideShapes Go.ChangeAt Go.RowKit Go.Shelf
open Go.Proofs.YtgnpffkfbacejaaGreatDoor.M
set_option linter.unusedVariables false

attribute [local go_sem] Oper.semAt_some

/-- The records that have come. -/
def gotR {bs : List UInt8} (ys : List (Rc bs)) : List Rcd := ys.map (fun y => y.1.1)
theorem gotR_snoc {bs : List UInt8} (ys : List (Rc bs)) (x : Rc bs) : gotR (ys ++ [x]) = gotR ys ++ [x.1.1] := by unfold gotR; rw [List.map_append]; rfl
/-- Between two rounds: the counts of what has come, and how many bytes it has. -/
def CI (w : World) (z B b6 b7 : Nat) (cp : Value) (SC : Nat → Prop) {bs : List UInt8} (ys : List (Rc bs)) (W : World) : Prop :=
  Count.Cnt W B cp SC (cntL (gotR ys)).1 (cntL (gotR ys)).2 ∧ Boxed W b7 58 cp ∧ Boxed W b6 3 (.int .i64 (lenL (gotR ys))) ∧ Below w.heap.size w W ∧ z ≤ W.heap.size ∧ lenL (gotR ys) ≤ 14 * ys.length
theorem CI.only {w W W' : World} {z B b6 b7 : Nat} {cp : Value} {SC S : Nat → Prop} {bs : List UInt8} {ys : List (Rc bs)} (h : CI w z B b6 b7 cp SC ys W) (ho : Only S W W') (hn : ∀ k, SC k ∨ k = b7 ∨ k = b6 ∨ k < w.heap.size → ¬ S k) : CI w z B b6 b7 cp SC ys W' := by
  obtain ⟨h1, h2, h3, h4, h5, h6⟩ := h
  refine ⟨Count.core.only h1 ho (fun k hk => hn k (Or.inl hk)), ho.heap h2 (hn _ (Or.inr (Or.inl rfl))), ho.heap h3 (hn _ (Or.inr (Or.inr (Or.inl rfl)))), ?_, Nat.le_trans h5 ho.size, h6⟩
  refine h4.trans (ho.below h4.size (fun k hk => ?_))
  by_cases hlt : k < w.heap.size
  · exact absurd hk (hn k (Or.inr (Or.inr (Or.inr hlt))))
  · omega
theorem CI.own {w : World} {z B b6 b7 n : Nat} {cp : Value} {SC : Nat → Prop} {bs : List UInt8} (hS : ∀ k, SC k → k < n) (h6 : b6 < n) (h7 : b7 < n) (hw : w.heap.size ≤ n) : OwnFrom n (CI w z B b6 b7 cp SC (bs := bs)) :=
  ownFrom_only (fun _ _ k => SC k ∨ k = b7 ∨ k = b6 ∨ k < w.heap.size) (fun _ _ _ k hk => by rcases hk with h | h | h | h; exact hS k h; all_goals omega) (fun _ _ _ _ h ho hn => h.only ho hn)
/-- The end of a round. -/
theorem round_end {w W w5 w6 : World} {z B b b6 b7 n xn : Nat} {cp : Value} {SC : Nat → Prop} {bs : List UInt8} {pre : List (Rc bs)} {x : Rc bs} {nm : ByteArray} {v : Int} (h5 : CI w z B b6 b7 cp SC pre w5) (hd : Below W.heap.size W w5)
    (hcs : cntL (gotR (pre ++ [x])) = (raiF (cntL (gotR pre)).1 (cntL (gotR pre)).2 nm v, raiK (cntL (gotR pre)).1 (cntL (gotR pre)).2 nm v)) (hls : lenL (gotR (pre ++ [x])) = lenL (gotR pre) + xn) (hxn : xn ≤ 14)
    (hc : Count.Cnt w6 B cp SC (raiF (cntL (gotR pre)).1 (cntL (gotR pre)).2 nm v) (raiK (cntL (gotR pre)).1 (cntL (gotR pre)).2 nm v)) (ho : Only SC w5 w6) (h67 : b6 ≠ b7) (hS : ∀ k, SC k → k < b6 ∧ w.heap.size ≤ k) (h6w : w.heap.size ≤ b6) (hbn : b6 < n ∧ b7 < n) (h7 : b6 < b7) (hb : b < w.heap.size) (hwW : w.heap.size ≤ W.heap.size) :
    KeepsFrom n W (w6.setCell ⟨b6, 0, none⟩ (.int .i64 ((lenL (gotR pre) : Int) + xn))) ∧ KpS (fun k => k = b) W (w6.setCell ⟨b6, 0, none⟩ (.int .i64 ((lenL (gotR pre) : Int) + xn))) ∧ CI w z B b6 b7 cp SC (pre ++ [x]) (w6.setCell ⟨b6, 0, none⟩ (.int .i64 ((lenL (gotR pre) : Int) + xn))) := by
  obtain ⟨g1, g2, g3, g4, g5, g6⟩ := h5
  have h1 : Only (fun _ => False) W w5 := Only.of_below hd
  have h2 : Only (fun k => k = b6) w6 (w6.setCell ⟨b6, 0, none⟩ (.int .i64 ((lenL (gotR pre) : Int) + xn))) := (Only.refl (fun k => k = b6) w6).setCell (p := ⟨b6, 0, none⟩) rfl _
  have h3 : Only (fun k => SC k ∨ k = b6) w5 (w6.setCell ⟨b6, 0, none⟩ (.int .i64 ((lenL (gotR pre) : Int) + xn))) := ((Only.refl _ w5).trans ho (fun k _ h => Or.inl h)).trans h2 (fun k _ h => Or.inr h)
  have h4 : Only (fun k => SC k ∨ k = b6) W (w6.setCell ⟨b6, 0, none⟩ (.int .i64 ((lenL (gotR pre) : Int) + xn))) := ((Only.refl _ W).trans h1 (fun k _ h => h.elim)).trans h3 (fun k _ h => h)
  have e6 : Boxed w6 b6 _ _ := ho.heap g3 (fun h => by have := (hS b6 h).1; omega)
  have e7 : Boxed w6 b7 _ _ := ho.heap g2 (fun h => by have := (hS b7 h).1; omega)
  refine ⟨keepsFrom_only h4 (fun k hk => ?_), kpS_only h4 (fun k hk => by omega) (fun k hk hs => ?_), ?_, e7.other (Ne.symm h67) _, ?_, ?_, Nat.le_trans g5 h3.size, ?_⟩
  · rcases hk with h | h
    · have := (hS k h).1; omega
    · omega
  · rcases hs with h | h
    · have := (hS k h).2; omega
    · omega
  · rw [hcs]
    exact Count.core.only hc h2 (fun k hk e => by have := (hS k hk).1; omega)
  · rw [hls]
    have := e6.set (.int .i64 ((lenL (gotR pre) : Int) + xn))
    rw [Int.natCast_add]
    exact this
  · exact g4.trans (h3.below g4.size (fun k hk => by rcases hk with h | h; exact (hS k h).2; omega))
  · rw [hls, List.length_append]
    simp only [List.length_cons, List.length_nil]
    omega
/-- The end of it. -/
theorem crash_end {w W : World} {B g D z L : Nat} {cp cp3 : Value} {SC SC3 : Nat → Prop} {ka : Option Addr} {kn kc : Nat} {bs rb : List UInt8} {sf ah : Int} {st : Bool} {f f3 : ByteArray → Int} {k k3 : Nat} (h : LIs w B g cp SC (.slice ka kn kc) bs sf ah st f k) (hB : B ≤ w.heap.size)
    (hb : Byt w B (.slice ka L kc) rb) (hW : Below w.heap.size w W) (hc : Count.Cnt W B cp3 SC3 f3 k3) (hS : ∀ b, SC3 b → w.heap.size ≤ b ∧ b < z) (hD : z ≤ D) (hz : w.heap.size ≤ z) :
    (W.setRow g #[cp3, .slice ka L kc, .int .i64 L, .int .i64 (-1), .bool false]).drew.heap[D]? = W.heap[D]? ∧
    LIs ((W.setRow g #[cp3, .slice ka L kc, .int .i64 L, .int .i64 (-1), .bool false]).drew.putObj D (.deferred none)) B g cp3 SC3 (.slice ka L kc) rb L (-1) false f3 k3 ∧
    Only (ft g SC (.slice ka kn kc)) w ((W.setRow g #[cp3, .slice ka L kc, .int .i64 L, .int .i64 (-1), .bool false]).drew.putObj D (.deferred none)) ∧ (∀ b, ft g SC3 (.slice ka L kc) b → ft g SC (.slice ka kn kc) b ∨ w.heap.size ≤ b) := by
  have hgl := blk_lt h.blk
  have hGW := (hW.block g hgl).trans h.blk
  have hob : ∀ b, (Value.slice ka L kc).ownBlock = some b → (Value.slice ka kn kc).ownBlock = some b := fun b hb => by cases ka <;> exact hb
  have h0 : Only (fun _ => False) w W := Only.of_below hW
  have h1 : Only (fun b => b = g) W (W.setRow g #[cp3, .slice ka L kc, .int .i64 L, .int .i64 (-1), .bool false]).drew := ((Only.refl (fun b => b = g) W).setRow (b := g) rfl _).drew
  have h2 : Only (fun b => b = D) (W.setRow g #[cp3, .slice ka L kc, .int .i64 L, .int .i64 (-1), .bool false]).drew ((W.setRow g #[cp3, .slice ka L kc, .int .i64 L, .int .i64 (-1), .bool false]).drew.putObj D (.deferred none)) :=
    (Only.refl _ _).trans (only_grown (grownBy_putObj' _ D (.deferred none))) (fun b _ hb => by have e : D = b := (by simpa using hb); exact e.symm)
  have hSg : ¬ SC3 g := fun hs => by have := (hS g hs).1; omega
  refine ⟨?_, ⟨?_, h.lo, ?_, ?_, hSg, fun e => h.gk (hob g e), fun b hb' hs => ?_⟩, ?_, ?_⟩
  · show (W.setRow g _).heap[D]? = _
    exact setRow_other _ _ _ _ (by omega)
  · exact h2.heap (k := g) (setRow_heap _ _ _ _ _ _ hGW) (by omega)
  · exact Count.core.only (Count.core.only hc h1 (fun b hb' e => hSg (by rw [← e]; exact hb'))) h2 (fun b hb' e => by have := (hS b hb').2; omega)
  · refine ((hb.only h0 (fun _ _ h => h)).only h1 (fun b hb' e => h.gk (by rw [← e]; exact hob b hb'))).only h2 (fun b hb' e => ?_)
    have := (h.byt.has b (hob b hb')).2
    omega
  · have h3 := (h.byt.has b (hob b hb')).2
    have h4 := (hS b hs).1
    omega
  · exact (((Only.refl _ w).trans h0 (fun b _ hb' => hb'.elim)).trans h1 (fun b _ hb' => Or.inl hb')).trans h2 (fun b hb' e => by omega)
  · rintro b (hb' | hb' | hb')
    · exact Or.inl (Or.inl hb')
    · exact Or.inr (hS b hb').1
    · exact Or.inl (Or.inr (Or.inr (hob b hb')))
/-- How many bytes are left, as Crash finds it. -/
theorem high_cases (nb sf : Nat) (keep : Int) (hs : sf ≤ nb) : ∃ hi : Nat, hi ≤ nb ∧ (hi : Int) = sf + min (max keep 0) ((nb : Int) - sf) := by
  refine ⟨sf + (min (max keep 0) ((nb : Int) - sf)).toNat, by omega, by omega⟩

set_option maxRecDepth 100000 in
set_option maxHeartbeats 8000000 in
theorem crash_any (w : World) (B g : Nat) (cp : Value) (SC : Nat → Prop) (ka : Option Addr) (kn kc : Nat) (bs : List UInt8) (sf hi : Nat) (ah : Int) (st : Bool) (f : ByteArray → Int) (k : Nat) (keep : Int) (h : LIs w B g cp SC (.slice ka kn kc) bs sf ah st f k)
    (rs : List Rcd) (tl : List UInt8) (hbs : bs.take hi = recsL rs ++ tl) (hA : AllR rs) (ht : (10 : UInt8) ∉ tl) (hl : bs.length ≤ 1000000) (hr : rs.length ≤ 1000) (hB : B ≤ w.heap.size) (hsf : sf ≤ bs.length) (hhi : hi ≤ bs.length) (hhv : (hi : Int) = sf + min (max keep 0) ((bs.length : Int) - sf)) :
    Calls Tryz.prog 8 #[.pointer (some ⟨g, 0, none⟩), .int .i64 keep] w fun e w' => e = .returned (.tuple #[]) ∧ ∃ cp' SC', LIs w' B g cp' SC' (.slice ka (lenL rs) kc) (recsL rs) (lenL rs) (-1) false (cntL rs).1 (cntL rs).2 ∧ Only (ft g SC (.slice ka kn kc)) w w' ∧ (∀ b, ft g SC' (.slice ka (lenL rs) kc) b → ft g SC (.slice ka kn kc) b ∨ w.heap.size ≤ b) := by
  have hG := h.blk
  have hgl := blk_lt hG
  have hkn : kn = bs.length := by
    rcases h.byt.form with ⟨e, e2⟩ | ⟨_, _, e, _⟩
    · injection e with _ e1 _; rw [e1, e2]; rfl
    · injection e
  subst hkn
  have HBY := hide (h.byt.cut hhi)
  have HKB := hide (fun b (hb : (Value.slice ka hi kc).ownBlock = some b) => (h.byt.has b (by cases ka <;> exact hb)).2)
  have hkc : bs.length ≤ kc := by
    rcases h.byt.form with ⟨e, e2⟩ | ⟨_, _, e, _, _, h3, _⟩
    · rw [e2]; simp
    · injection e with _ _ e3; omega
  have hlt : (bs.take hi).length = hi := by rw [List.length_take]; omega
  obtain ⟨r0, r1, r2, r3, r4⟩ := quin_cells hG
  have HLI := hide h
  generalize hbe : bs.take hi = ls at *
  have HIT := hide (fun (n : Nat) (hn : 1 ≤ n) (Bn : Nat) (W0 : World) (hk : Byt W0 B (.slice ka hi kc) ls) (hb : Boxed W0 Bn 60 (.slice ka hi kc)) => iter_byt n hn rs tl ls (.slice ka hi kc) B g Bn W0 hbs hA ht (by omega) hk hb)
  obtain ⟨nb, hnb⟩ : ∃ nb, bs.length = nb := ⟨_, rfl⟩
  rw [hnb] at hl hsf hhi hhv hkc r1
  have HBC : Hid (Byt w B (.slice ka (lenL rs) kc) (recsL rs)) := hide (by
    have hlr : lenL rs ≤ hi := by rw [← recs_len hA]; have := congrArg List.length hbs; rw [List.length_append] at this; omega
    have := h.byt.cut (m := lenL rs) (by omega)
    rw [show bs.take (lenL rs) = recsL rs by rw [show lenL rs = min (lenL rs) hi by omega, ← List.take_take, hbe, hbs, ← recs_len hA, List.take_left]] at this
    exact this)
  have HLR : Hid (lenL rs ≤ hi) := hide (by rw [← recs_len hA]; have := congrArg List.length hbs; rw [List.length_append] at this; omega)
  clear hbs hA ht h hbe
  have q1 : (0 : Int) ≤ (nb : Int) - sf := by omega
  have q2 : IntKind.i64.wrap ((nb : Int) - sf) = (nb : Int) - sf := wrap_in (by omega) (by omega)
  have q3 : IntKind.i64.wrap ((sf : Int) + min (max keep 0) ((nb : Int) - sf)) = (hi : Int) := by rw [← hhv]; exact wrap_in (by omega) (by omega)
  have q4 : (0 : Int) ≤ (hi : Int) := by omega
  have q5 : (hi : Int) ≤ (kc : Int) := by omega
  refine (callsIn_wide (n := 6)).1 ?_
  refine callsIn_of_wp_marks Tryz.func8 rfl trivial ?_ rfl
  simp only [Tryz.ntmps8, List.size_toArray, List.length_cons, List.length_nil, Nat.reduceAdd, Nat.reduceSub, Array.replicate_succ, Array.replicate_zero, List.push_toArray, List.append_toArray, List.nil_append, List.cons_append]
  refine wpIn_wide.2 ?_
  go_wp2_with (fail)
  go_quiet (fail)
  go_wp2_with (fail)
  obtain ⟨w1, hw1⟩ : ∃ w1, w1 = w.drewN nq := ⟨_, rfl⟩
  have hb1 : Below w.heap.size w w1 := by rw [hw1]; exact below_drewN (Below.refl _ _) _
  rw [← hw1]
  clear hw1 r0 r1 r2 r3 r4
  have hG1 := blk_below hG hb1
  rw [hnb] at hG1
  obtain ⟨r0, r1, r2, r3, r4⟩ := quin_cells hG1
  clear hG q2
  go_quiet (fail)
  obtain ⟨w2, hw2⟩ : ∃ w2, w2 = w1.drewN nq := ⟨_, rfl⟩
  have hb2 : Below w.heap.size w w2 := by rw [hw2]; exact below_drewN hb1 _
  rw [← hw2]
  have e5 : (sf : Int) + min (max keep 0) ((nb : Int) - sf) = (hi : Int) := hhv.symm
  simp only [e5, Int.toNat_natCast]
  clear hw2 r0 r1 r2 r3 r4 hb1 hG1 q3 q1 e5
  generalize min (max keep 0) ((nb : Int) - sf) = mm at *
  generalize max keep 0 = mx at *
  have HNW := hide (Count.core.new w2 B (Nat.le_trans hB hb2.size))
  have HB2 := hide hb2
  clear hb2
  go_wp2_with (first | (go_at_call 21; refine HNW.out.mono ?_; rintro e w3 ⟨cp3, SC3, rfl, hC3, hS3, hb3⟩; obtain ⟨g3, m3, hg3, _⟩ := id hC3; subst hg3) | (go_at_call 28; refine (records_any _ rfl _).mono ?_; rintro e w4 ⟨rfl, rfl⟩))
  obtain ⟨W0, hW0⟩ : ∃ W0, W0 = ((w3.alloc (.cells #[.int .i64 0] 3)).alloc (.cells #[.pointer (some ⟨g3, 0, none⟩)] 58)).alloc (.cells #[.slice ka hi kc] 60) := ⟨_, rfl⟩
  have hz : W0.heap.size = w3.heap.size + 3 := by rw [hW0]; simp
  have hs3 := hb3.size
  have hs2 := HB2.out.size
  have b6 : Boxed W0 w3.heap.size 3 (.int .i64 0) := by rw [hW0]; exact ((Boxed.new w3 _ _).alloc _).alloc _
  have b7 : Boxed W0 (w3.heap.size + 1) 58 (.pointer (some ⟨g3, 0, none⟩)) := by rw [hW0]; have := (Boxed.new (w3.alloc (.cells #[.int .i64 0] 3)) 58 (.pointer (some ⟨g3, 0, none⟩))).alloc (.cells #[.slice ka hi kc] 60); simpa using this
  have b8 : Boxed W0 (w3.heap.size + 1 + 1) 60 (.slice ka hi kc) := by rw [hW0]; have := Boxed.new ((w3.alloc (.cells #[.int .i64 0] 3)).alloc (.cells #[.pointer (some ⟨g3, 0, none⟩)] 58)) 60 (.slice ka hi kc); simpa using this
  have hbW : Below w3.heap.size w3 W0 := by rw [hW0]; exact below_on (below_on (below_new _ _) (below_new _ _)) (below_new _ _)
  have hbw3 : Below w.heap.size w w3 := HB2.out.trans (hb3.mono HB2.out.size)
  have hbw : Below w.heap.size w W0 := hbw3.trans (hbW.mono hbw3.size)
  have hSl : ∀ k, SC3 k → k < w3.heap.size := fun k hk => (Count.core.has hC3 k hk).2
  have hSg : ∀ k, SC3 k → w.heap.size ≤ k := fun k hk => Nat.le_trans hs2 (hS3 k hk)
  have h0 : CI w W0.heap.size B w3.heap.size (w3.heap.size + 1) (.pointer (some ⟨g3, 0, none⟩)) SC3 ([] : List (Rc ls)) W0 := ⟨Count.core.below hC3 hbW, b7, b6, hbw, Nat.le_refl _, by simp [gotR, lenL]⟩
  obtain ⟨b, C, hbC, hC, hcel, hq⟩ := HIT.out 5 (by decide) (w3.heap.size + 1 + 1) W0 (HBY.out.only (Only.of_below (S := fun _ => False) hbw) (fun _ _ h => h)) b8
  have hbl : b < w.heap.size := by
    rcases hbC with h | h
    · exact HKB.out b h
    · omega
  have HRD : Hid (∀ (x : Rc ls) (W : World), Below w.heap.size w W → Calls Tryz.prog 29 #[.slice (some ⟨b, x.1.2, none⟩) x.1.1.2.2 (C - x.1.2)] W fun e w' => e = .returned (.tuple #[.string x.1.1.1, .int .i64 x.1.1.2.1]) ∧ Below W.heap.size W w') := by
    intro x W hW
    obtain ⟨hg, hlen, c, hd⟩ := x.2
    have hdl := congrArg List.length hd
    rw [List.length_drop, List.length_append] at hdl
    rw [hlen]
    refine read_any b x.1.2 (C - x.1.2) x.1.1.1 x.1.1.2.1 W hg (by omega) (fun i y hi => ?_)
    have e1 := hcel (x.1.2 + i) y (by rw [← List.getElem?_drop, hd]; rw [List.getElem?_append_left (List.getElem?_eq_some_iff.1 hi).1]; exact hi)
    rw [hbw.cell (p := ⟨b, x.1.2 + i, none⟩) hbl] at e1
    rw [hW.cell (p := ⟨b, x.1.2 + i, none⟩) hbl]
    exact e1
  rw [← hW0]
  clear b6 b7 b8 HIT HBY hW0 hcel HNW
  refine (wpIn_wide (n := 6)).1 ?_
  refine wpIn_rangeFunc_ownH rfl (by decide) (gf := 49) (lb := #[.pointer (some ⟨w3.heap.size + 1 + 1, 0, none⟩)]) rfl trivial (enters_of Tryz.func49 (by kernel_rfl) rfl) hq kpS_t (kpS_b (n := W0.heap.size) (fun k hk => by omega)) (Below.refl _ _) (fun _ => rfl)
    (CI w W0.heap.size B w3.heap.size (w3.heap.size + 1) (.pointer (some ⟨g3, 0, none⟩)) SC3) (fun _ _ _ => False) (CI.own (fun k hk => by have := hSl k hk; omega) (by omega) (by omega) (by omega)) (fun _ _ _ _ _ hs _ _ => hs) h0
    (fun x a' W => a' = { tmps := #[.pointer (some ⟨g, 0, none⟩), .int .i64 keep, undef, undef, .int .i64 ((nb : Int) - sf), .slice ka hi kc, .pointer (some ⟨w3.heap.size, 0, none⟩), .pointer (some ⟨w3.heap.size + 1, 0, none⟩), .slice (some ⟨b, x.1.2, none⟩) x.1.1.2.2 (C - x.1.2), .pointer (some ⟨g, 0, none⟩), .pointer (some ⟨g, 0, none⟩), .pointer (some ⟨g, 1, none⟩), .slice ka nb kc, .int .i64 nb, .pointer (some ⟨g, 0, none⟩), .pointer (some ⟨g, 0, none⟩), .pointer (some ⟨g, 2, none⟩), .int .i64 sf, .int .i64 ((nb : Int) - sf), .pointer (some ⟨g, 0, none⟩), .pointer (some ⟨g, 0, none⟩), .pointer (some ⟨g, 1, none⟩), .slice ka nb kc, .pointer (some ⟨g, 0, none⟩), .pointer (some ⟨g, 0, none⟩), .pointer (some ⟨g, 2, none⟩), .int .i64 sf, .int .i64 keep, .int .i64 mx, .int .i64 ((nb : Int) - sf), .int .i64 mm, .int .i64 ((sf : Int) + mm), .slice ka hi kc, .pointer (some ⟨g3, 0, none⟩), .slice ka hi kc, .func (.func 49) #[] #[.pointer (some ⟨w3.heap.size + 1 + 1, 0, none⟩)], .slice (some ⟨b, x.1.2, none⟩) x.1.1.2.2 (C - x.1.2), undef, undef, undef, undef, undef, undef, undef, undef, undef, undef, undef, undef, undef, undef, undef, undef, undef, undef], defers := [] })
    (fun x a' _ X Y row hs hg hr => hs) ?assign ?body ?done ?stop
  case assign =>
    rintro l pre x W K' hi hK'
    gi_wp2
    have hon : Only (fun _ => False) W W := Only.refl _ _
    exact hK' _ _ (keepsFrom_only hon (fun _ h => h.elim)) (fun k hk => rfl) hi rfl
  case body =>
    rintro l pre x a' W hl ⟨r, hr'⟩ hi rfl hlt
    have hsz := hi.2.2.2.2.1
    have hx1 : x.1.1.1.size ≤ 140737488351232 := by have := (nameB_parts x.2.1.1).2.2; omega
    have hlen : x.1.1.2.2 ≤ 14 := by have := (bod_len x.2.1).2; rw [x.2.2.1, rec_len]; omega
    have RD := hide (fun (W' : World) (h : Below w.heap.size w W') => HRD.out x W' h)
    have HCS : Hid (cntL (gotR (pre ++ [x])) = (raiF (cntL (gotR pre)).1 (cntL (gotR pre)).2 x.1.1.1 x.1.1.2.1, raiK (cntL (gotR pre)).1 (cntL (gotR pre)).2 x.1.1.1 x.1.1.2.1)) := hide (by rw [gotR_snoc, cntL_snoc])
    have HLS : Hid (lenL (gotR (pre ++ [x])) = lenL (gotR pre) + x.1.1.2.2) := hide (by rw [gotR_snoc, lenL_snoc])
    have HI := hide hi
    have HId : Hid (CI w W0.heap.size B w3.heap.size (w3.heap.size + 1) (.pointer (some ⟨g3, 0, none⟩)) SC3 pre W.drew) := hide (hi.only (Only.drew (Only.refl (fun _ => False) W)) (fun _ _ h => h))
    have hlz : (lenL (gotR pre) : Int) ≤ 14000 := by have := hi.2.2.2.2.2; omega
    have c7 := hi.2.1.cell
    generalize x.1.1.1 = nm at *
    generalize x.1.1.2.1 = v at *
    generalize x.1.1.2.2 = xn at *
    generalize x.1.2 = xo at *
    have hmo : Tryz.prog.follows Departure.mixedOrders = true := by kernel_rfl
    have hnS : ∀ k, w3.heap.size ≤ k → ¬ SC3 k := fun k hk hs => by have := hSl k hs; omega
    have HNS := hide hnS
    have hlz0 : (0 : Int) ≤ (lenL (gotR pre) : Int) := by omega
    have hxz : (xn : Int) ≤ 14 := by omega
    have HW : Hid (w.heap.size ≤ W.heap.size) := hide (by omega)
    have HSS : Hid (∀ k, SC3 k → k < w3.heap.size ∧ w.heap.size ≤ k) := hide (fun k hk => ⟨hSl k hk, hSg k hk⟩)
    have HHL := hide hlen
    clear hi hnS hq h0 HRD hbC hC hSg hb3 hC3 hS3 hbW hbw3 hbw hlen
    gi_wp2_with (fail)
    gi_region_with_o (first | (refine ⟨trivial, ?_⟩; gi_at_call 29; refine (CallsIn.inRound l (callsIn_wide.2 (RD.out W.drew HId.out.2.2.2.1))).mono ?_; rintro e w5 ⟨rfl, hb5⟩; have ho5 : Only (fun _ => False) W.drew w5 := Only.of_below hb5; have HI5 := hide (HId.out.only ho5 (fun _ _ h => h)); have c75 := HI5.out.2.1.cell; have HB5 := hide hb5; clear hb5 ho5) | (refine ⟨trivial, ?_⟩; gi_at_call 26; refine (CallsIn.inRound l (callsIn_wide.2 (Count.raiseStay _ SC3 _ _ nm v w5 B HI5.out.1 hx1))).mono ?_; rintro e w6 ⟨rfl, hc6, ho6⟩; have HC6 := hide hc6; have HO6 := hide ho6; have e6 : Boxed w6 w3.heap.size _ _ := ho6.heap HI5.out.2.2.1 (HNS.out _ (by omega)); have E7 := hide (ho6.heap HI5.out.2.1 (HNS.out _ (by omega))); have c66 := e6.cell; have f66 := e6.frozen; have E6 := hide e6; clear hc6 ho6 e6))
    all_goals
      gi_wp2
      exact round_end HI5.out (below_on (Below.drew (Below.refl _ W)) HB5.out) HCS.out HLS.out HHL.out HC6.out HO6.out (by omega) HSS.out (by omega) (by omega) (by omega) hbl HW.out
  case done =>
    rintro D ys W hD hys hi hK'
    have hgot : gotR ys = rs := hys
    obtain ⟨h1, h2, h3, h4, h5, h6⟩ := hi
    rw [hgot] at h1 h3 h6
    have c6 := h3.cell
    have c7 := h2.cell
    have hGW := (h4.block g hgl).trans HLI.out.blk
    obtain ⟨r0, r1, r2, r3, r4⟩ := quin_cells hGW
    obtain ⟨f0, f1, f2, f3, f4⟩ := quin_free hGW
    have HH1 := hide h1
    have HH4 := hide h4
    have HGW := hide hGW
    have HK' := hide hK'
    have hL0 : (0 : Int) ≤ (lenL rs : Int) := by omega
    have hL1 : (lenL rs : Int) ≤ (kc : Int) := by have := HLR.out; omega
    have n1 : g < w3.heap.size := by omega
    have n2 : g < w3.heap.size + 1 := by omega
    have n3 : w3.heap.size < w3.heap.size + 1 := by omega
    clear h1 h2 h3 h4 hGW hK' hys hgot
    go_wp2_with (fail)
    go_region
    rw [quin_set HGW.out]
    go_wp2_with (fail)
    obtain ⟨k1, k2, k3, k4⟩ := crash_end (D := D) (z := w3.heap.size) HLI.out hB HBC.out HH4.out HH1.out (fun b hb' => ⟨hSg b hb', hSl b hb'⟩) (by omega) (by omega)
    refine ⟨by simp, .inl ⟨_, _, rfl, run_takeDeferred (k1.trans HK'.out), ?_⟩⟩
    exact ⟨_, results_none rfl _ _ _, rfl, _, SC3, k2, k3, k4⟩
  case stop =>
    rintro D c pre W _ _ h _
    exact h.elim
end Go.Proofs.YtgnpffkfbacejaaGreatDoor.Log
