/-
  Plain facts on the reference's desk in memory.
-/
import Derived.Test.YtjkcplpmhjnahaaGreatDoorQDeskIs
import Derived.Deep.DeepCutAuto
namespace Go.Proofs.YtjkcplpmhjnahaaGreatDoor.Desk
open Go.ChangeShapes Go.WideShapes Go.ChangeAt Go.RowKit
open Go.Proofs.YtjkcplpmhjnahaaGreatDoor.M
set_option linter.unusedVariables false
set_option linter.unusedSimpArgs false

theorem pwZ_lt (a n : Int) : 0 ≤ pwZ a n ∧ pwZ a n < 1543 := by
  unfold pwZ
  have := pw_lt a.toNat n.toNat
  omega
theorem cutG_size (c : UInt8) : ∀ (l acc x : List UInt8), x ∈ cutG c acc l → x.length ≤ acc.length + l.length
  | [], acc, x, h => by
    unfold cutG at h
    rw [List.mem_singleton.1 h]
    omega
  | b :: l, acc, x, h => by
    unfold cutG at h
    split at h
    · rcases List.mem_cons.1 h with rfl | h
      · omega
      · have := cutG_size c l [] x h
        simp at this ⊢
        omega
    · have := cutG_size c l _ x h
      simp at this ⊢
      omega
theorem word_size {ps : List ByteArray} {s : ByteArray} {k : List UInt8} {r : List (List UInt8)} (h : ps.map (fun x => x.data.toList) = k :: r) (hs : s.size ≤ 3000) (hc : cutG 32 [] s.data.toList = k :: r) : ∀ x ∈ ps, x.size ≤ 3000 := by
  intro x hx
  have h1 : x.data.toList ∈ cutG 32 [] s.data.toList := by rw [hc, ← h]; exact List.mem_map.2 ⟨x, hx, rfl⟩
  have h2 := cutG_size 32 _ _ _ h1
  simp at h2
  have h3 : s.data.size = s.size := rfl
  have h4 : x.data.size = x.size := rfl
  omega
theorem cell_lt {W : World} {b i : Nat} {v : Value} (h : W.cell? ⟨b, i, none⟩ = some v) : b < W.heap.size := by
  by_cases hb : b < W.heap.size
  · exact hb
  · unfold World.cell? at h
    simp only [] at h
    rw [Array.getElem?_eq_none (by omega)] at h
    cases h
theorem bank_split {l : List Int} (h : l.length = 8) : ∃ b0 b1 b2 b3 b4 b5 b6 b7, l = [b0, b1, b2, b3, b4, b5, b6, b7] := by
  match l, h with
  | [b0, b1, b2, b3, b4, b5, b6, b7], _ => exact ⟨b0, b1, b2, b3, b4, b5, b6, b7, rfl⟩
theorem desk_cells {W : World} {g : Nat} {v : Value} {b0 b1 b2 b3 b4 b5 b6 b7 : Int} {T : TypeId} (h : W.heap[g]? = some (.cells (v :: [b0, b1, b2, b3, b4, b5, b6, b7].map (Value.int .i64)).toArray T)) : W.cell? ⟨g, 1, none⟩ = some (.int .i64 b0) ∧ W.cell? ⟨g, 2, none⟩ = some (.int .i64 b1) ∧ W.cell? ⟨g, 3, none⟩ = some (.int .i64 b2) ∧ W.cell? ⟨g, 4, none⟩ = some (.int .i64 b3) ∧ W.cell? ⟨g, 5, none⟩ = some (.int .i64 b4) ∧ W.cell? ⟨g, 6, none⟩ = some (.int .i64 b5) ∧ W.cell? ⟨g, 7, none⟩ = some (.int .i64 b6) ∧ W.cell? ⟨g, 8, none⟩ = some (.int .i64 b7) := by
  refine ⟨?_, ?_, ?_, ?_, ?_, ?_, ?_, ?_⟩ <;> rw [cell_of_row W g _ _ T _ h] <;> rfl
/-- While nothing that was there changes. -/
def KB (w W : World) : Prop := Below w.heap.size w W
theorem kb_drew {w W : World} (h : KB w W) : KB w W.drew := Below.drew h
theorem kb_below {w W W' : World} (h : KB w W) (hb : Below W.heap.size W W') : KB w W' := below_on h hb
theorem two_S {A B C : Prop} (hc : C) (hab : C → A ∧ B) : A ∧ B ∧ C := ⟨(hab hc).1, (hab hc).2, hc⟩
theorem heap_set {W : World} {g i : Nat} {v : Value} {c : Array Value} {T : TypeId} {fr : Nat × Nat} (h : W.heap[g]? = some (.cells c T fr)) : (W.setCell ⟨g, i, none⟩ v).heap[g]? = some (.cells (c.setIfInBounds i v) T fr) := by
  rw [setCell_eq_setRow W g i _ _ _ v h]
  exact setRow_heap _ _ _ _ _ _ h
theorem desk_at {W : World} {B g : Nat} {v : Value} {cs : List (ByteArray × Int)} {d : Dk} {i : Nat} {x : Int} (h : DIs W B g v cs d) (hx : d.b[i]? = some x) : W.cell? ⟨g, 1 + i, none⟩ = some (.int .i64 x) ∧ W.frozen? ⟨g, 1 + i, none⟩ = false := by
  refine ⟨?_, frozen_of_row W g _ _ _ h.1.1⟩
  rw [cell_of_row W g _ _ _ _ h.1.1]
  simp [Nat.add_comm 1 i, hx]
theorem quiet_dr (w : World) : ∀ n, Below w.heap.size w (w.drewN n)
  | 0 => Below.refl _ _
  | n + 1 => Below.drew (quiet_dr w n)
theorem only_cell {S : Nat → Prop} {w W : World} {b i : Nat} {v : Value} (h : Only S w W) (hb : b < w.heap.size) (hn : ¬ S b) (hc : w.cell? ⟨b, i, none⟩ = some v) : W.cell? ⟨b, i, none⟩ = some v := by
  have e := h.2.2.2.2 b hb hn
  unfold World.cell? at hc ⊢
  simp only [] at hc ⊢
  rw [e]
  exact hc
/-- The desk behind a store. -/
def EP (wr : World) (B g : Nat) (v : Value) (cs : List (ByteArray × Int)) (d : Dk) (W : World) : Prop := DIs W B g v cs d ∧ Only (fun k => k = g) wr W
theorem ep_drew (wr : World) (B g : Nat) (v : Value) (cs : List (ByteArray × Int)) (d : Dk) (W : World) : EP wr B g v cs d W.drew = EP wr B g v cs d W := rfl
theorem kb_cell {w W : World} {b i : Nat} {v : Value} (h : KB w W) (hc : w.cell? ⟨b, i, none⟩ = some v) : W.cell? ⟨b, i, none⟩ = some v := only_cell (Only.of_below (S := fun _ => False) h) (cell_lt hc) (fun hf => hf) hc
theorem cix_drew {rs : List Value} {T : TypeId} {W : World} {B g : Nat} {v : Value} {cs : List (ByteArray × Int)} (h : CntRef.CIx rs T W B g v cs) : CntRef.CIx rs T W.drew B g v cs := h.below (Below.drew (Below.refl _ _))
theorem may_nat (f : ByteArray → Int) (nm : ByteArray) (x : Int) : ∃ n : Nat, mayE f nm x = n ∧ n ≤ 9 := by
  unfold mayE
  split
  · split
    · split
      · exact ⟨9, rfl, by omega⟩
      · exact ⟨0, rfl, by omega⟩
    · exact ⟨1, rfl, by omega⟩
  · exact ⟨3, rfl, by omega⟩
theorem rai_nat (f : ByteArray → Int) (k : Nat) (nm : ByteArray) (x : Int) : ∃ n : Nat, raiE f k nm x = n ∧ n ≤ 9 := by
  unfold raiE
  split
  · split
    · split
      · exact ⟨0, rfl, by omega⟩
      · split
        · exact ⟨4, rfl, by omega⟩
        · exact ⟨0, rfl, by omega⟩
    · exact ⟨1, rfl, by omega⟩
  · exact ⟨3, rfl, by omega⟩
/-- But for the desk all is as it was. -/
def RX (wr : World) (g : Nat) (v : Value) (W : World) : Prop := Only (CntRef.cfoot g v) wr W
theorem rx_drew {wr W : World} {g : Nat} {v : Value} (h : RX wr g v W) : RX wr g v W.drew := h
theorem rx_below {wr W W' : World} {g : Nat} {v : Value} (h : RX wr g v W) (hb : Below W.heap.size W W') : RX wr g v W' := h.after hb
theorem rx_after {rs : List Value} {T : TypeId} {wr W W' : World} {B g : Nat} {v : Value} {cs : List (ByteArray × Int)} {s : ByteArray} {x : Int} (h : RX wr g v W) (ha : CntRef.AfterX rs T W B g v cs s x W') : RX wr g v W' := by
  obtain ⟨_, _, _, _, _, h4, _⟩ := ha
  exact h.trans h4 (fun _ _ hk => hk)
/-- Raised, and more that changes nothing. -/
def AX (rs : List Value) (wr : World) (B g : Nat) (v : Value) (cs : List (ByteArray × Int)) (s : ByteArray) (x : Int) (W : World) : Prop := ∃ W0 W5, RX wr g v W0 ∧ CntRef.AfterX rs 32 W0 B g v cs s x W5 ∧ Below W5.heap.size W5 W
theorem AX.mk {rs : List Value} {wr W W' : World} {B g : Nat} {v : Value} {cs : List (ByteArray × Int)} {s : ByteArray} {x : Int} (h : RX wr g v W) (ha : CntRef.AfterX rs 32 W B g v cs s x W') : AX rs wr B g v cs s x W' := ⟨W, W', h, ha, Below.refl _ _⟩
theorem ax_drew {rs : List Value} {wr W : World} {B g : Nat} {v : Value} {cs : List (ByteArray × Int)} {s : ByteArray} {x : Int} (h : AX rs wr B g v cs s x W) : AX rs wr B g v cs s x W.drew := by
  obtain ⟨W0, W5, h1, h2, h3⟩ := h
  exact ⟨W0, W5, h1, h2, Below.drew h3⟩
theorem ax_below {rs : List Value} {wr W W' : World} {B g : Nat} {v : Value} {cs : List (ByteArray × Int)} {s : ByteArray} {x : Int} (h : AX rs wr B g v cs s x W) (hb : Below W.heap.size W W') : AX rs wr B g v cs s x W' := by
  obtain ⟨W0, W5, h1, h2, h3⟩ := h
  exact ⟨W0, W5, h1, h2, below_on h3 hb⟩
theorem raise_post {w wr W0 W5 w5 : World} {B g : Nat} {v : Value} {cs : List (ByteArray × Int)} {d : Dk} {s : ByteArray} {n : Nat} {r : List (List UInt8)} {e : Ending} (h : DIs w B g v cs d) (hb : Below w.heap.size w wr) (h0 : RX wr g v W0) (ha : CntRef.AfterX (d.b.map (Value.int .i64)) 32 W0 B g v cs s (n : Int) W5) (h5 : Below W5.heap.size W5 w5)
    (he : e = .returned (.string { data := (if raiE (CntRef.ofC cs) cs.length s (n : Int) = 0 then (if raiB (CntRef.ofC cs) cs.length s (n : Int) = true then ansYes else ansNo) else errN (raiE (CntRef.ofC cs) cs.length s (n : Int))).toArray }))
    (hA : wordsA d (kwRaise :: r) = doL d kwRaise s.data.toList [n]) : Post w B g v (wordsA d (kwRaise :: r)) e w5 := by
  obtain ⟨v', cs', h1, h2, h3, h4, h6⟩ := ha
  have hO : Only (CntRef.cfoot g v) w w5 := ((Only.of_below (S := CntRef.cfoot g v) hb).trans (h0.trans h4 (fun _ _ hk => hk)) (fun _ _ hk => hk)).after h5
  have hsz : w.heap.size ≤ W0.heap.size := Nat.le_trans hb.size (Only.size h0)
  have hF : ∀ b, CntRef.cfoot g v' b → CntRef.cfoot g v b ∨ w.heap.size ≤ b := fun b hb' => by
    rcases h6 b hb' with h | h
    · exact Or.inl h
    · exact Or.inr (by omega)
  have hD : doL d kwRaise s.data.toList [n] = if raiE (CntRef.ofC cs) cs.length s (n : Int) = 0 then (if raiB (CntRef.ofC cs) cs.length s (n : Int) = true then ansYes else ansNo, { d with f := raiF (CntRef.ofC cs) cs.length s (n : Int), k := raiK (CntRef.ofC cs) cs.length s (n : Int) }) else (errN (raiE (CntRef.ofC cs) cs.length s (n : Int)), d) := by
    rw [← h.2.1, ← h.2.2.1]
    exact rfl
  rw [hA, hD]
  by_cases hz : raiE (CntRef.ofC cs) cs.length s (n : Int) = 0
  · rw [if_pos hz] at he ⊢
    exact ⟨v', cs', he, ⟨h1.below h5, h2.symm, h3.symm, h.2.2.2⟩, hO, hF⟩
  · rw [if_neg hz] at he ⊢
    have hnb : ¬ raiB (CntRef.ofC cs) cs.length s (n : Int) = true := fun hb => hz (raiE_rise hb)
    rw [raiF_no hnb] at h2
    rw [raiK_no hnb] at h3
    exact ⟨v', cs', he, ⟨h1.below h5, h.2.1.trans h2.symm, h.2.2.1.trans h3.symm, h.2.2.2⟩, hO, hF⟩
theorem dr_heap (w : World) : w.drew.heap = w.heap := rfl
theorem al_heap (w : World) (o : Obj) : (w.alloc o).heap = w.heap.push o := rfl
theorem blk_at {wc W w5 : World} {o : Obj} (hb : Below W.heap.size W w5) (he : W.heap = wc.heap.push o) : w5.heap[wc.heap.size]? = some o := by
  rw [hb.block _ (by rw [he]; simp), he]
  exact Array.getElem?_push_size
theorem blk_a {X w5 : World} {o : Obj} (hb : Below (X.alloc o).heap.size (X.alloc o) w5) : w5.heap[X.heap.size]? = some o := blk_below (blk_new X o) hb
theorem blk_b {X w5 : World} {o : Obj} (hb : Below (X.alloc o).drew.heap.size (X.alloc o).drew w5) : w5.heap[X.heap.size]? = some o := blk_below (w := (X.alloc o).drew) (blk_new X o) hb
theorem kb_refl (w : World) : KB w w := Below.refl _ _
theorem kb_alloc {w W : World} {o : Obj} (h : KB w W) : KB w (W.alloc o) := below_on h (below_new _ _)
/-- A seal that was laid. -/
def SL (wc : World) (gs : Nat) (p a : Int) (W : World) : Prop := W.heap[gs]? = some (.cells #[.int .i64 p, .int .i64 a] 64) ∧ KB wc W
theorem sl_drew {wc : World} {gs : Nat} {p a : Int} {W : World} (h : SL wc gs p a W) : SL wc gs p a W.drew := ⟨h.1, kb_drew h.2⟩
theorem sl_store {wc w5 : World} {gs : Nat} {x y : Value} {p a : Int} (h : w5.heap[gs]? = some (.cells #[x, y] 64)) (hk : KB wc w5) (hg : wc.heap.size ≤ gs) : SL wc gs p a ((w5.setCell ⟨gs, 0, none⟩ (.int .i64 p)).setCell ⟨gs, 1, none⟩ (.int .i64 a)) := by
  rw [two_set h]
  exact ⟨setRow_heap _ _ _ _ _ _ h, below_setRow hk hg _⟩
theorem sl_alloc {wc w5 : World} {p a : Int} (hk : KB wc w5) : SL wc w5.heap.size p a (w5.alloc (.cells #[.int .i64 p, .int .i64 a] 64)) := ⟨blk_new _ _, kb_alloc hk⟩
theorem sl_two {wc w5 : World} {p a : Int} (hb : Below (wc.drew.alloc (.cells #[.int .i64 0, .int .i64 0] 64)).heap.size (wc.drew.alloc (.cells #[.int .i64 0, .int .i64 0] 64)) w5) (hk : KB wc w5) : SL wc wc.heap.size p a ((w5.setCell ⟨wc.heap.size, 0, none⟩ (.int .i64 p)).setCell ⟨wc.heap.size, 1, none⟩ (.int .i64 a)) := sl_store (blk_below (w := wc.drew.alloc (.cells #[.int .i64 0, .int .i64 0] 64)) (blk_new wc _) hb) hk (Nat.le_refl _)
theorem sl_twod {wc w5 : World} {p a : Int} (hb : Below ((wc.drew.alloc (.cells #[.int .i64 0, .int .i64 0] 64)).drew).heap.size ((wc.drew.alloc (.cells #[.int .i64 0, .int .i64 0] 64)).drew) w5) (hk : KB wc w5) : SL wc wc.heap.size p a ((w5.setCell ⟨wc.heap.size, 0, none⟩ (.int .i64 p)).setCell ⟨wc.heap.size, 1, none⟩ (.int .i64 a)) := sl_store (blk_below (w := (wc.drew.alloc (.cells #[.int .i64 0, .int .i64 0] 64)).drew) (blk_new wc _) hb) hk (Nat.le_refl _)
theorem sl_one {wc w5 : World} {p a : Int} (hb : Below (wc.alloc (.cells #[.int .i64 0, .int .i64 0] 64)).heap.size (wc.alloc (.cells #[.int .i64 0, .int .i64 0] 64)) w5) (hk : KB wc w5) : SL wc wc.heap.size p a ((w5.setCell ⟨wc.heap.size, 0, none⟩ (.int .i64 p)).setCell ⟨wc.heap.size, 1, none⟩ (.int .i64 a)) := sl_store (blk_below (w := wc.alloc (.cells #[.int .i64 0, .int .i64 0] 64)) (blk_new wc _) hb) hk (Nat.le_refl _)
theorem sl_oned {wc w5 : World} {p a : Int} (hb : Below ((wc.alloc (.cells #[.int .i64 0, .int .i64 0] 64)).drew).heap.size ((wc.alloc (.cells #[.int .i64 0, .int .i64 0] 64)).drew) w5) (hk : KB wc w5) : SL wc wc.heap.size p a ((w5.setCell ⟨wc.heap.size, 0, none⟩ (.int .i64 p)).setCell ⟨wc.heap.size, 1, none⟩ (.int .i64 a)) := sl_store (blk_below (w := (wc.alloc (.cells #[.int .i64 0, .int .i64 0] 64)).drew) (blk_new wc _) hb) hk (Nat.le_refl _)
theorem cell_pass {W w5 : World} (hb : Below W.heap.size W w5) (b : Nat) : ∀ i : Nat, b < W.heap.size → w5.cell? ⟨b, i, none⟩ = W.cell? ⟨b, i, none⟩ := fun i h => hb.cell (p := ⟨b, i, none⟩) h
theorem froz_pass {W w5 : World} (hb : Below W.heap.size W w5) (b : Nat) : ∀ i : Nat, b < W.heap.size → w5.frozen? ⟨b, i, none⟩ = W.frozen? ⟨b, i, none⟩ := fun i h => by
  have e := hb.block b h
  unfold World.frozen?
  simp only []
  rw [e]
theorem kb_set0 {wc W : World} {i : Nat} {v : Value} (h : KB wc W) : KB wc (W.setCell ⟨wc.heap.size, i, none⟩ v) := ((Only.of_below (S := fun k => k = wc.heap.size) h).setCell (p := ⟨wc.heap.size, i, none⟩) rfl v).below (Nat.le_refl _) (fun k hk => by rw [show k = wc.heap.size from hk]; exact Nat.le_refl _)
theorem dig_size (l : List UInt8) : ({ data := l.toArray } : ByteArray).size = l.length := by simp [ByteArray.size]
theorem app_sign (p a : Nat) : ({ data := (Lib.decDigits p).toArray } : ByteArray) ++ { data := #[32] } ++ { data := (Lib.decDigits a).toArray } = { data := (digs (p : Int) ++ [32] ++ digs (a : Int)).toArray } := by
  rw [show ({ data := #[32] } : ByteArray) = { data := [32].toArray } from rfl, Ref.append_text, Ref.append_text]
  rfl
/-- A register of the desk's bank, written. -/
theorem desk_put {W : World} {B g : Nat} {v : Value} {cs : List (ByteArray × Int)} {d : Dk} {i : Nat} {x z : Int} (h : DIs W B g v cs d) (hx : d.b[i]? = some x) (hz : isM z = true) : DIs (W.setCell ⟨g, 1 + i, none⟩ (.int .i64 z)) B g v cs { d with b := d.b.set i z } ∧ Only (fun k => k = g) W (W.setCell ⟨g, 1 + i, none⟩ (.int .i64 z)) := by
  have ho : Only (fun k => k = g) W (W.setCell ⟨g, 1 + i, none⟩ (.int .i64 z)) := (Only.refl (fun k => k = g) W).setCell (p := ⟨g, 1 + i, none⟩) rfl _
  obtain ⟨⟨h1, h2, h3, h4⟩, h5, h6, h7, h8⟩ := h
  refine ⟨⟨⟨?_, ?_, h3, h4⟩, h5, h6, by rw [List.length_set]; exact h7, ?_⟩, ho⟩
  · rw [heap_set h1]
    congr 2
    show (v :: d.b.map (Value.int .i64)).toArray.setIfInBounds (1 + i) (.int .i64 z) = (v :: (d.b.set i z).map (Value.int .i64)).toArray
    rw [List.map_set, Nat.add_comm 1 i]
    simp
  · refine ⟨h2.1, ?_⟩
    rcases h2.2 with e | ⟨r, cap, cur, e1, e2, e3, e4⟩
    · exact Or.inl e
    · exact Or.inr ⟨r, cap, cur, e1, e2, ho.heap e3 (fun e => h3 (by rw [e1, e]; rfl)), e4⟩
  · refine okAll_of (fun k y hy => ?_)
    by_cases hk : k = i
    · subst hk
      rw [List.getElem?_set_self (List.getElem?_eq_some_iff.1 hx).1] at hy
      cases hy
      exact hz
    · rw [List.getElem?_set_ne (fun e => hk e.symm)] at hy
      exact okAll_at h8 hy
end Go.Proofs.YtjkcplpmhjnahaaGreatDoor.Desk
