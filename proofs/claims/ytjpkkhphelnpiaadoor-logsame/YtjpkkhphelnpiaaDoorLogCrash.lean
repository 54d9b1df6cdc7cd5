/-
  Package log's Crash: what is left of the bytes, and the counts that the records left make.
-/
import Derived.Test.YtjpkkhphelnpiaaDoorLogIter
import Derived.BigQuiet
import Derived.WalkSmall
namespace Go.Proofs.YtjpkkhphelnpiaaDoor.Log
open Go.ChangeShapes Go.WideShapes Go.ChangeAt Go.RowKit Go.Shelf
open Go.Proofs.YtjpkkhphelnpiaaDoor.M
set_option linter.unusedVariables false

attribute [local go_sem] Oper.semAt_some

/-- The records that have come. -/
def gotR {bs : List UInt8} (ys : List (Rc bs)) : List Rcd := ys.map (fun y => y.1.1)
theorem gotR_snoc {bs : List UInt8} (ys : List (Rc bs)) (x : Rc bs) : gotR (ys ++ [x]) = gotR ys ++ [x.1.1] := by unfold gotR; rw [List.map_append]; rfl
/-- Between two rounds: the counts of what has come, and how many bytes it has. -/
def CI (w : World) (z B b6 b7 : Nat) (cp : Value) (SC : Nat → Prop) {bs : List UInt8} (ys : List (Rc bs)) (W : World) : Prop :=
  Count.Cnt W B cp SC (cntL (gotR ys)).1 (cntL (gotR ys)).2 ∧ Boxed W b7 30 cp ∧ Boxed W b6 3 (.int .i64 (lenL (gotR ys))) ∧ Below w.heap.size w W ∧ z ≤ W.heap.size ∧ lenL (gotR ys) ≤ 14 * ys.length
theorem CI.only {w W W' : World} {z B b6 b7 : Nat} {cp : Value} {SC S : Nat → Prop} {bs : List UInt8} {ys : List (Rc bs)} (h : CI w z B b6 b7 cp SC ys W) (ho : Only S W W') (hn : ∀ k, SC k ∨ k = b7 ∨ k = b6 ∨ k < w.heap.size → ¬ S k) : CI w z B b6 b7 cp SC ys W' := by
  obtain ⟨h1, h2, h3, h4, h5, h6⟩ := h
  refine ⟨Count.core.only h1 ho (fun k hk => hn k (Or.inl hk)), ho.heap h2 (hn _ (Or.inr (Or.inl rfl))), ho.heap h3 (hn _ (Or.inr (Or.inr (Or.inl rfl)))), ?_, Nat.le_trans h5 ho.size, h6⟩
  refine h4.trans (ho.below h4.size (fun k hk => ?_))
  by_cases hlt : k < w.heap.size
  · exact absurd hk (hn k (Or.inr (Or.inr (Or.inr hlt))))
  · omega
theorem CI.own {w : World} {z B b6 b7 n : Nat} {cp : Value} {SC : Nat → Prop} {bs : List UInt8} (hS : ∀ k, SC k → k < n) (h6 : b6 < n) (h7 : b7 < n) (hw : w.heap.size ≤ n) : OwnFrom n (CI w z B b6 b7 cp SC (bs := bs)) :=
  ownFrom_only (fun _ _ k => SC k ∨ k = b7 ∨ k = b6 ∨ k < w.heap.size) (fun _ _ _ k hk => by rcases hk with h | h | h | h; exact hS k h; all_goals omega) (fun _ _ _ _ h ho hn => h.only ho hn)
/-- The end of a round. -/
theorem round_end {w W w5 w6 : World} {z B b b6 b7 n xn : Nat} {cp : Value} {SC : Nat → Prop} {bs : List UInt8} {pre : List (Rc bs)} {x : Rc bs} {nm : ByteArray} {v : Int} (h5 : CI w z B b6 b7 cp SC pre w5) (hd : Below W.heap.size W w5)
    (hcs : cntL (gotR (pre ++ [x])) = (raiF (cntL (gotR pre)).1 (cntL (gotR pre)).2 nm v, raiK (cntL (gotR pre)).1 (cntL (gotR pre)).2 nm v)) (hls : lenL (gotR (pre ++ [x])) = lenL (gotR pre) + xn) (hxn : xn ≤ 14)
    (hc : Count.Cnt w6 B cp SC (raiF (cntL (gotR pre)).1 (cntL (gotR pre)).2 nm v) (raiK (cntL (gotR pre)).1 (cntL (gotR pre)).2 nm v)) (ho : Only SC w5 w6) (h67 : b6 ≠ b7) (hS : ∀ k, SC k → k < b6 ∧ w.heap.size ≤ k) (h6w : w.heap.size ≤ b6) (hbn : b6 < n ∧ b7 < n) (h7 : b6 < b7) (hb : b < w.heap.size) (hwW : w.heap.size ≤ W.heap.size) :
    KeepsFrom n W (w6.setCell ⟨b6, 0, none⟩ (.int .i64 ((lenL (gotR pre) : Int) + xn))) ∧ KpS (fun k => k = b) W (w6.setCell ⟨b6, 0, none⟩ (.int .i64 ((lenL (gotR pre) : Int) + xn))) ∧ CI w z B b6 b7 cp SC (pre ++ [x]) (w6.setCell ⟨b6, 0, none⟩ (.int .i64 ((lenL (gotR pre) : Int) + xn))) := by
  obtain ⟨g1, g2, g3, g4, g5, g6⟩ := h5
  have h1 : Only (fun _ => False) W w5 := Only.of_below hd
  have h2 : Only (fun k => k = b6) w6 (w6.setCell ⟨b6, 0, none⟩ (.int .i64 ((lenL (gotR pre) : Int) + xn))) := (Only.refl (fun k => k = b6) w6).setCell (p := ⟨b6, 0, none⟩) rfl _
  have h3 : Only (fun k => SC k ∨ k = b6) w5 (w6.setCell ⟨b6, 0, none⟩ (.int .i64 ((lenL (gotR pre) : Int) + xn))) := ((Only.refl _ w5).trans ho (fun k _ h => Or.inl h)).trans h2 (fun k _ h => Or.inr h)
  have h4 : Only (fun k => SC k ∨ k = b6) W (w6.setCell ⟨b6, 0, none⟩ (.int .i64 ((lenL (gotR pre) : Int) + xn))) := ((Only.refl _ W).trans h1 (fun k _ h => h.elim)).trans h3 (fun k _ h => h)
  have e6 : Boxed w6 b6 _ _ := ho.heap g3 (fun h => by have := (hS b6 h).1; omega)
  have e7 : Boxed w6 b7 _ _ := ho.heap g2 (fun h => by have := (hS b7 h).1; omega)
  refine ⟨keepsFrom_only h4 (fun k hk => ?_), kpS_only h4 (fun k hk => by omega) (fun k hk hs => ?_), ?_, e7.other (Ne.symm h67) _, ?_, ?_, Nat.le_trans g5 h3.size, ?_⟩
  · rcases hk with h | h
    · have := (hS k h).1; omega
    · omega
  · rcases hs with h | h
    · have := (hS k h).2; omega
    · omega
  · rw [hcs]
    exact Count.core.only hc h2 (fun k hk e => by have := (hS k hk).1; omega)
  · rw [hls]
    have := e6.set (.int .i64 ((lenL (gotR pre) : Int) + xn))
    rw [Int.natCast_add]
    exact this
  · exact g4.trans (h3.below g4.size (fun k hk => by rcases hk with h | h; exact (hS k h).2; omega))
  · rw [hls, List.length_append]
    simp only [List.length_cons, List.length_nil]
    omega
/-- The end of it. -/
theorem crash_end {w W : World} {B g D z L : Nat} {cp cp3 : Value} {SC SC3 : Nat → Prop} {ka : Option Addr} {kn kc : Nat} {bs rb : List UInt8} {sf ah : Int} {st : Bool} {f f3 : ByteArray → Int} {k k3 : Nat} (h : LIs w B g cp SC (.slice ka kn kc) bs sf ah st f k) (hB : B ≤ w.heap.size)
    (hb : Byt w B (.slice ka L kc) rb) (hW : Below w.heap.size w W) (hc : Count.Cnt W B cp3 SC3 f3 k3) (hS : ∀ b, SC3 b → w.heap.size ≤ b ∧ b < z) (hD : z ≤ D) (hz : w.heap.size ≤ z) :
    (W.setRow g #[cp3, .slice ka L kc, .int .i64 L, .int .i64 (-1), .bool false]).drew.heap[D]? = W.heap[D]? ∧
    LIs ((W.setRow g #[cp3, .slice ka L kc, .int .i64 L, .int .i64 (-1), .bool false]).drew.putObj D (.deferred none)) B g cp3 SC3 (.slice ka L kc) rb L (-1) false f3 k3 ∧
    Only (ft g SC (.slice ka kn kc)) w ((W.setRow g #[cp3, .slice ka L kc, .int .i64 L, .int .i64 (-1), .bool false]).drew.putObj D (.deferred none)) ∧ (∀ b, ft g SC3 (.slice ka L kc) b → ft g SC (.slice ka kn kc) b ∨ w.heap.size ≤ b) := by
  have hgl := blk_lt h.blk
  have hGW := (hW.block g hgl).trans h.blk
  have hob : ∀ b, (Value.slice ka L kc).ownBlock = some b → (Value.slice ka kn kc).ownBlock = some b := fun b hb => by cases ka <;> exact hb
  have h0 : Only (fun _ => False) w W := Only.of_below hW
  have h1 : Only (fun b => b = g) W (W.setRow g #[cp3, .slice ka L kc, .int .i64 L, .int .i64 (-1), .bool false]).drew := ((Only.refl (fun b => b = g) W).setRow (b := g) rfl _).drew
  have h2 : Only (fun b => b = D) (W.setRow g #[cp3, .slice ka L kc, .int .i64 L, .int .i64 (-1), .bool false]).drew ((W.setRow g #[cp3, .slice ka L kc, .int .i64 L, .int .i64 (-1), .bool false]).drew.putObj D (.deferred none)) :=
    (Only.refl _ _).trans (only_grown (grownBy_putObj' _ D (.deferred none))) (fun b _ hb => by have e : D = b := (by simpa using hb); exact e.symm)
  have hSg : ¬ SC3 g := fun hs => by have := (hS g hs).1; omega
  refine ⟨?_, ⟨?_, h.lo, ?_, ?_, hSg, fun e => h.gk (hob g e), fun b hb' hs => ?_⟩, ?_, ?_⟩
  · show (W.setRow g _).heap[D]? = _
    exact setRow_other _ _ _ _ (by omega)
  · exact h2.heap (k := g) (setRow_heap _ _ _ _ _ _ hGW) (by omega)
  · exact Count.core.only (Count.core.only hc h1 (fun b hb' e => hSg (by rw [← e]; exact hb'))) h2 (fun b hb' e => by have := (hS b hb').2; omega)
  · refine ((hb.only h0 (fun _ _ h => h)).only h1 (fun b hb' e => h.gk (by rw [← e]; exact hob b hb'))).only h2 (fun b hb' e => ?_)
    have := (h.byt.has b (hob b hb')).2
    omega
  · have h3 := (h.byt.has b (hob b hb')).2
    have h4 := (hS b hs).1
    omega
  · exact (((Only.refl _ w).trans h0 (fun b _ hb' => hb'.elim)).trans h1 (fun b _ hb' => Or.inl hb')).trans h2 (fun b hb' e => by omega)
  · rintro b (hb' | hb' | hb')
    · exact Or.inl (Or.inl hb')
    · exact Or.inr (hS b hb').1
    · exact Or.inl (Or.inr (Or.inr (hob b hb')))
/-- How many bytes are left, as Crash finds it. -/
theorem high_cases (nb sf : Nat) (keep : Int) (hs : sf ≤ nb) : ∃ hi : Nat, hi ≤ nb ∧ (hi : Int) = sf + min (max keep 0) ((nb : Int) - sf) := by
  refine ⟨sf + (min (max keep 0) ((nb : Int) - sf)).toNat, by omega, by omega⟩

end Go.Proofs.YtjpkkhphelnpiaaDoor.Log
