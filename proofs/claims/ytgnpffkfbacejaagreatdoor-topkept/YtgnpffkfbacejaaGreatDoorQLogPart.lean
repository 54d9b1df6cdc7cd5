/-
  How package log's object lies in memory: counts, a row of bytes of its own, how many of them are safe, in how many steps it stops, and whether it has stopped; what a step, and a record that is written, make of it.
-/
import Derived.Test.YtgnpffkfbacejaaGreatDoorQLogText
import Derived.Test.YtgnpffkfbacejaaGreatDoorPack1
import Derived.Test.YtgnpffkfbacejaaGreatDoorQCntObj
import Derived.Test.YtgnpffkfbacejaaGreatDoorQCells
import Derived.Deep.RegionLaw
import Derived.Deep.AppendLies
import Derived.Lib.AppendStr
namespace Go.Proofs.YtgnpffkfbacejaaGreatDoor.Log
open Go.ChangeShapes Go.WideShapes Go.ChangeAt Go.RowKit
open Go.Proofs.YtgnpffkfbacejaaGreatDoor.M
set_option linter.unusedVariables false

section App
variable {P : Program} (w : World)
/-- A string that is not empty, put behind a row of the call's own; where the row lies then. -/
theorem run_append_str (base : Nat) (t u ty e : TypeId) (i : TypeInfo) (ht : P.underlying t = some (.slice e)) (hu : P.underlying u = some .string) (hi : P.info? e = some i) (hz : i.zero = some (.int .u8 0)) (hsize : i.size = 1) (hby : i.bytes = 1)
    (v : Value) (n : Nat) (xs : List Value) (hown : w.ownsRow base e 1 v n xs) (s : ByteArray) (h0 : 0 < s.size) (hb : n + s.size ≤ 1000000) (hbase : base ≤ w.heap.size) :
    ∃ g cap w', (Builtin.append_ #[t, u] ty #[v, .string s]).run P w = .ok (.slice (some ⟨g, 0, none⟩) (n + s.size) cap) w' ∧
      w'.ownsRow base e 1 (.slice (some ⟨g, 0, none⟩) (n + s.size) cap) (n + s.size) (xs ++ Lib.strCells s) ∧ w.grownBy w' v.ownBlock ∧ (v.ownBlock = some g ∨ g = w.heap.size) ∧ g < w'.heap.size := by
  obtain ⟨v', w', hr, h2, h3, h4⟩ := Lib.run_append_own_string (P := P) w base t u ty e i ht hu hi hz hsize hby v n xs hown s (by unfold maxLen; omega) (by omega) hbase
  obtain ⟨g, cap, rfl, _, hlt⟩ := h2.form (by omega)
  refine ⟨g, cap, w', hr, h2, h3, ?_, hlt⟩
  have hxl : xs.length = n := by simpa using hown.1
  rcases hown.2 with ⟨rfl, rfl⟩ | ⟨g0, cap0, cur, rfl, hbg, hg, hnc, hcm, hcs, htake⟩
  · have hr2 := run_append_nil_string (P := P) w t u ty e i (.int .u8 0) ht hu hi hz s (by omega) (by omega) (by rw [hby]; omega)
    rw [hr2] at hr
    injection hr with e1 e2
    injection e1 with e3
    injection e3 with e4
    injection e4 with e5
    exact Or.inr e5.symm
  · by_cases hroom : n + s.size ≤ cap0
    · have hcs' : cur.size = cap0 := by simpa using hcs
      have hr2 := Lib.run_append_room_string (P := P) w t u ty e i ht hu hi hsize g0 n cap0 cur hg s hroom (by omega)
      rw [hr2] at hr
      injection hr with e1 e2
      injection e1 with e3
      injection e3 with e4
      injection e4 with e5
      exact Or.inl (by rw [← e5]; rfl)
    · have holds : ∀ j u, xs[j]? = some u → w.cell? ((⟨g0, 0, none⟩ : Addr).add j) = some u := hown.cells (g := g0) rfl
      have hr2 := Lib.run_append_grow_string (P := P) w t u ty e i (.int .u8 0) ht hu hi hz ⟨g0, 0, none⟩ n cap0 xs (by rw [hsize]; simpa using hxl) holds s (by omega) (by omega) (by rw [hby]; exact growslice_fits (by omega) (by omega))
      rw [hr2] at hr
      injection hr with e1 e2
      injection e1 with e3
      injection e3 with e4
      injection e4 with e5
      exact Or.inr e5.symm
theorem wp_append_str {o : Oper} {a : Act} {K : Act → World → Prop} {Q : Exit → Act → World → Prop} (sl x : Operand) (t u : TypeId) (ho : o.op = .call { callee := .builtin .append, args := #[sl, x], argTypes := #[t, u] })
    (base : Nat) (e : TypeId) (hinfo : (P.info? e).map (fun i => (i.zero, i.size, i.bytes)) = some (some (.int .u8 0), 1, 1)) (ht : P.underlying t = some (.slice e)) (hu : P.underlying u = some .string)
    (v : Value) (n : Nat) (xs : List Value) (hs : a.eval sl = v) (hown : w.ownsRow base e 1 v n xs) (s : ByteArray) (hx : a.eval x = .string s) (h0 : 0 < s.size) (hb : n + s.size ≤ 1000000) (hbase : base ≤ w.heap.size)
    (h : ∀ g cap w', w'.ownsRow base e 1 (.slice (some ⟨g, 0, none⟩) (n + s.size) cap) (n + s.size) (xs ++ Lib.strCells s) → w.grownBy w' v.ownBlock → (v.ownBlock = some g ∨ g = w.heap.size) → g < w'.heap.size → K (a.put o.dst (.slice (some ⟨g, 0, none⟩) (n + s.size) cap)) w') : o.wp P a w K Q := by
  obtain ⟨i, hi, hz0, hz1, hz2⟩ := info_parts hinfo
  obtain ⟨g, cap, w', hr, h2, h3, h4, h5⟩ := run_append_str (P := P) w base t u o.type e i ht hu hi hz0 hz1 hz2 v n xs hown s h0 hb hbase
  unfold Oper.wp execOp
  simp only [ho, resolve, invoke, builtin, Sem.run_bind, Sem.run_pure, Result.andThen_ok, List.map_toArray, List.map_cons, List.map_nil, hs, hx, hr]
  exact h g cap w' h2 h3 h4 h5
theorem wpList_append_str {ops : Array Oper} {rest : List Oper} {o : Oper} {a : Act} {Q : Exit → Act → World → Prop} (hgd : o.guard = none) (sl x : Operand) (t u : TypeId) (ho : o.op = .call { callee := .builtin .append, args := #[sl, x], argTypes := #[t, u] })
    (base : Nat) (e : TypeId) (hinfo : (P.info? e).map (fun i => (i.zero, i.size, i.bytes)) = some (some (.int .u8 0), 1, 1)) (ht : P.underlying t = some (.slice e)) (hu : P.underlying u = some .string)
    (v : Value) (n : Nat) (xs : List Value) (hs : a.eval sl = v) (hown : w.ownsRow base e 1 v n xs) (s : ByteArray) (hx : a.eval x = .string s) (h0 : 0 < s.size) (hb : n + s.size ≤ 1000000) (hbase : base ≤ w.heap.size)
    (h : ∀ g cap w', w'.ownsRow base e 1 (.slice (some ⟨g, 0, none⟩) (n + s.size) cap) (n + s.size) (xs ++ Lib.strCells s) → w.grownBy w' v.ownBlock → (v.ownBlock = some g ∨ g = w.heap.size) → g < w'.heap.size → wpList P ops Q rest (a.put o.dst (.slice (some ⟨g, 0, none⟩) (n + s.size) cap)) w') : wpList P ops Q (o :: rest) a w :=
  wpList_plain hgd fun _ hK => wp_append_str w sl x t u ho base e hinfo ht hu v n xs hs hown s hx h0 hb hbase fun g cap w' h2 h3 h4 h5 => hK _ _ (h g cap w' h2 h3 h4 h5)
theorem step_append_str {ops : Array Oper} {o : Oper} {a : Act} {K : Act → World → Prop} {Q : Exit → Act → World → Prop} {E : Prop} (hgd : o.guard = none) (sl x : Operand) (t u : TypeId) (ho : o.op = .call { callee := .builtin .append, args := #[sl, x], argTypes := #[t, u] })
    (base : Nat) (e : TypeId) (hinfo : (P.info? e).map (fun i => (i.zero, i.size, i.bytes)) = some (some (.int .u8 0), 1, 1)) (ht : P.underlying t = some (.slice e)) (hu : P.underlying u = some .string)
    (v : Value) (n : Nat) (xs : List Value) (hs : a.eval sl = v) (hown : w.ownsRow base e 1 v n xs) (s : ByteArray) (hx : a.eval x = .string s) (h0 : 0 < s.size) (hb : n + s.size ≤ 1000000) (hbase : base ≤ w.heap.size)
    (h : ∀ g cap w', w'.ownsRow base e 1 (.slice (some ⟨g, 0, none⟩) (n + s.size) cap) (n + s.size) (xs ++ Lib.strCells s) → w.grownBy w' v.ownBlock → (v.ownBlock = some g ∨ g = w.heap.size) → g < w'.heap.size → K (a.put o.dst (.slice (some ⟨g, 0, none⟩) (n + s.size) cap)) w') :
    if Region.wanted o (yielded ops a.tmps) = true then Oper.wp P o a w K Q else E := by
  have hw : Region.wanted o (yielded ops a.tmps) = true := by simp [Region.wanted, hgd]
  rw [if_pos hw]
  exact wp_append_str w sl x t u ho base e hinfo ht hu v n xs hs hown s hx h0 hb hbase h
end App
theorem info_byte : (Tryz.prog.info? 5).map (fun i => (i.zero, i.size, i.bytes)) = some (some (.int .u8 0), 1, 1) := by kernel_rfl

theorem wrap_in {n : Int} (h0 : 0 ≤ n) (h1 : n ≤ 9223372036854775807) : IntKind.i64.wrap n = n := by
  simp [IntKind.wrap, IntKind.bits, IntKind.signed]
  omega
def byC (bs : List UInt8) : List Value := bs.map fun b => Value.int .u8 b.toNat
theorem byC_len (bs : List UInt8) : (byC bs).length = bs.length := by unfold byC; rw [List.length_map]
/-- A row of bytes of its own. -/
def Byt (W : World) (B : Nat) (kv : Value) (bs : List UInt8) : Prop := W.ownsRow B 5 1 kv bs.length (byC bs)
section Byt
variable {W W' : World} {B : Nat} {kv : Value} {bs : List UInt8} {T : Nat → Prop}
theorem Byt.only (h : Byt W B kv bs) (ho : Only T W W') (hn : ∀ b, kv.ownBlock = some b → ¬ T b) : Byt W' B kv bs := by
  refine ⟨h.1, ?_⟩
  rcases h.2 with h2 | ⟨g, cap, cur, h1, h2, h3, h4⟩
  · exact Or.inl h2
  · exact Or.inr ⟨g, cap, cur, h1, h2, ho.heap h3 (hn g (by rw [h1]; rfl)), h4⟩
theorem Byt.has (h : Byt W B kv bs) : ∀ k, kv.ownBlock = some k → B ≤ k ∧ k < W.heap.size := World.ownsRow.lt h
theorem Byt.form (h : Byt W B kv bs) : (kv = .slice none 0 0 ∧ bs = []) ∨ ∃ g cap, kv = .slice (some ⟨g, 0, none⟩) bs.length cap ∧ B ≤ g ∧ g < W.heap.size ∧ bs.length ≤ cap ∧ cap ≤ maxLen ∧ ∀ i b, bs[i]? = some b → W.cell? ⟨g, i, none⟩ = some (.int .u8 b.toNat) := by
  rcases h.2 with ⟨h1, h2⟩ | ⟨g, cap, cur, h1, h2, h3, h4, h5, h6⟩
  · exact Or.inl ⟨h1, List.eq_nil_of_length_eq_zero h2⟩
  · refine Or.inr ⟨g, cap, h1, h2, blk_lt h3, h4, h5, fun i b hi => ?_⟩
    have := World.ownsRow.cells h (g := g) (by rw [h1]; rfl) i (.int .u8 b.toNat) (by unfold byC; rw [List.getElem?_map, hi]; rfl)
    rwa [add_none, Nat.zero_add] at this
theorem Byt.cut {a : Option Addr} {n c m : Nat} (h : Byt W B (.slice a n c) bs) (hm : m ≤ bs.length) : Byt W B (.slice a m c) (bs.take m) := by
  have hl : (bs.take m).length = m := by rw [List.length_take]; omega
  unfold Byt
  rw [hl]
  refine ⟨by rw [byC_len, hl]; omega, ?_⟩
  rcases h.2 with ⟨h1, h2⟩ | ⟨g, cap, cur, h1, h2, h3, h4, h5, h6, h7⟩
  · left
    injection h1 with e1 e2 e3
    subst e1 e3
    have : m = 0 := by omega
    subst this
    exact ⟨rfl, rfl⟩
  · right
    injection h1 with e1 e2 e3
    subst e1 e3
    refine ⟨g, c, cur, rfl, h2, h3, by omega, h5, h6, ?_⟩
    unfold byC
    rw [List.map_take]
    have h7' : cur.toList.take bs.length = bs.map fun b => Value.int .u8 b.toNat := by simpa [byC] using h7
    rw [← h7', List.take_take, Nat.mul_one, Nat.min_eq_left hm]
end Byt

/-- A log in memory. -/
structure LIs (W : World) (B g : Nat) (cp : Value) (SC : Nat → Prop) (kv : Value) (bs : List UInt8) (sf ah : Int) (st : Bool) (f : ByteArray → Int) (k : Nat) : Prop where
  blk : W.heap[g]? = some (.cells #[cp, kv, .int .i64 sf, .int .i64 ah, .bool st] 62)
  lo : B ≤ g
  cnt : Count.Cnt W B cp SC f k
  byt : Byt W B kv bs
  gc : ¬ SC g
  gk : ¬ kv.ownBlock = some g
  kc : ∀ b, kv.ownBlock = some b → ¬ SC b
/-- Its blocks. -/
def ft (g : Nat) (SC : Nat → Prop) (kv : Value) (b : Nat) : Prop := b = g ∨ SC b ∨ kv.ownBlock = some b
section Lis
variable {W W' : World} {B g : Nat} {cp kv : Value} {SC T : Nat → Prop} {bs : List UInt8} {sf ah : Int} {st : Bool} {f : ByteArray → Int} {k : Nat}
theorem LIs.only (h : LIs W B g cp SC kv bs sf ah st f k) (ho : Only T W W') (hn : ∀ b, ft g SC kv b → ¬ T b) : LIs W' B g cp SC kv bs sf ah st f k :=
  ⟨ho.heap h.blk (hn g (Or.inl rfl)), h.lo, Count.core.only h.cnt ho (fun b hb => hn b (Or.inr (Or.inl hb))), h.byt.only ho (fun b hb => hn b (Or.inr (Or.inr hb))), h.gc, h.gk, h.kc⟩
theorem LIs.below (h : LIs W B g cp SC kv bs sf ah st f k) (hb : Below W.heap.size W W') : LIs W' B g cp SC kv bs sf ah st f k := h.only (Only.of_below (S := fun _ => False) hb) (fun _ _ h => h)
theorem LIs.has (h : LIs W B g cp SC kv bs sf ah st f k) : ∀ b, ft g SC kv b → B ≤ b ∧ b < W.heap.size := by
  rintro b (rfl | hb | hb)
  · exact ⟨h.lo, blk_lt h.blk⟩
  · exact Count.core.has h.cnt b hb
  · exact h.byt.has b hb
/-- Another row of its own cells. -/
theorem LIs.row (h : LIs W B g cp SC kv bs sf ah st f k) (sf' ah' : Int) (st' : Bool) : LIs (W.setRow g #[cp, kv, .int .i64 sf', .int .i64 ah', .bool st']) B g cp SC kv bs sf' ah' st' f k := by
  have ho : Only (fun b => b = g) W (W.setRow g #[cp, kv, .int .i64 sf', .int .i64 ah', .bool st']) := (Only.refl (fun b => b = g) W).setRow (b := g) rfl _
  exact ⟨setRow_heap _ _ _ _ _ _ h.blk, h.lo, Count.core.only h.cnt ho (fun b hb e => h.gc (by rw [← e]; exact hb)), h.byt.only ho (fun b hb e => h.gk (by rw [← e]; exact hb)), h.gc, h.gk, h.kc⟩
end Lis
section Five
variable {w : World} {b : Nat} {a0 a1 a2 a3 a4 z : Value} {t : TypeId} {fr : Nat × Nat} (hg : w.heap[b]? = some (.cells #[a0, a1, a2, a3, a4] t fr))
include hg
theorem five1 : w.setCell ⟨b, 1, none⟩ z = w.setRow b #[a0, z, a2, a3, a4] := by
  rw [setCell_eq_setRow w b 1 _ _ _ z hg]; rfl
theorem five2 : w.setCell ⟨b, 2, none⟩ z = w.setRow b #[a0, a1, z, a3, a4] := by
  rw [setCell_eq_setRow w b 2 _ _ _ z hg]; rfl
theorem five3 : w.setCell ⟨b, 3, none⟩ z = w.setRow b #[a0, a1, a2, z, a4] := by
  rw [setCell_eq_setRow w b 3 _ _ _ z hg]; rfl
theorem five4 : w.setCell ⟨b, 4, none⟩ z = w.setRow b #[a0, a1, a2, a3, z] := by
  rw [setCell_eq_setRow w b 4 _ _ _ z hg]; rfl
end Five
/-- A record behind the others: the row may lie elsewhere then. -/
theorem LIs.app {W W1 : World} {B g g3 c3 n : Nat} {cp kv : Value} {SC : Nat → Prop} {bs xs : List UInt8} {sf ah : Int} {st : Bool} {f : ByteArray → Int} {k : Nat} (h : LIs W B g cp SC kv bs sf ah st f k) (hn : n = (bs ++ xs).length)
    (ho : W1.ownsRow B 5 1 (.slice (some ⟨g3, 0, none⟩) n c3) n (byC bs ++ byC xs)) (hg : W.grownBy W1 kv.ownBlock) (ha : kv.ownBlock = some g3 ∨ g3 = W.heap.size) :
    W1.heap[g]? = some (.cells #[cp, kv, .int .i64 sf, .int .i64 ah, .bool st] 62) ∧
      LIs (W1.setRow g #[cp, .slice (some ⟨g3, 0, none⟩) n c3, .int .i64 sf, .int .i64 ah, .bool st]) B g cp SC (.slice (some ⟨g3, 0, none⟩) n c3) (bs ++ xs) sf ah st f k ∧
      Only (ft g SC kv) W (W1.setRow g #[cp, .slice (some ⟨g3, 0, none⟩) n c3, .int .i64 sf, .int .i64 ah, .bool st]) ∧ (∀ b, ft g SC (.slice (some ⟨g3, 0, none⟩) n c3) b → ft g SC kv b ∨ W.heap.size ≤ b) := by
  have hG : W1.heap[g]? = some (.cells #[cp, kv, .int .i64 sf, .int .i64 ah, .bool st] 62) := (hg.block g (blk_lt h.blk) (fun e => h.gk e.symm)).trans h.blk
  have h1 : Only (fun b => kv.ownBlock = some b) W W1 := (Only.refl _ W).grown hg (fun b hb => Or.inl hb)
  have h2 : Only (fun b => b = g) W1 (W1.setRow g #[cp, .slice (some ⟨g3, 0, none⟩) n c3, .int .i64 sf, .int .i64 ah, .bool st]) := (Only.refl (fun b => b = g) W1).setRow (b := g) rfl _
  have hg3 : ¬ g3 = g := by
    rintro rfl
    rcases ha with e | e
    · exact h.gk e
    · have := blk_lt h.blk; omega
  have hc3 : ¬ SC g3 := by
    intro hs
    rcases ha with e | e
    · exact h.kc g3 e hs
    · have := (Count.core.has h.cnt g3 hs).2; omega
  refine ⟨hG, ⟨setRow_heap _ _ _ _ _ _ hG, h.lo, ?_, ?_, h.gc, fun e => hg3 (by simpa [Value.ownBlock] using e), fun b hb => ?_⟩, (((Only.refl _ W).trans h1 (fun b _ hb => Or.inr (Or.inr hb))).trans h2 (fun b _ hb => Or.inl hb)), ?_⟩
  · exact Count.core.only (Count.core.only h.cnt h1 (fun b hb e => h.kc b e hb)) h2 (fun b hb e => h.gc (by rw [← e]; exact hb))
  · have hb : Byt W1 B (.slice (some ⟨g3, 0, none⟩) n c3) (bs ++ xs) := by
      unfold Byt byC
      rw [← hn, List.map_append]
      exact ho
    exact hb.only h2 (fun b hb e => hg3 (by rw [← e]; simpa [Value.ownBlock] using hb))
  · have : g3 = b := by simpa [Value.ownBlock] using hb
    rw [← this]
    exact hc3
  · rintro b (hb | hb | hb)
    · exact Or.inl (Or.inl hb)
    · exact Or.inl (Or.inr (Or.inl hb))
    · have e : g3 = b := by simpa [Value.ownBlock] using hb
      subst e
      rcases ha with e | e
      · exact Or.inl (Or.inr (Or.inr e))
      · exact Or.inr (by omega)

/-- What a step leaves. -/
def Step (w : World) (B g : Nat) (cp kv : Value) (SC : Nat → Prop) (bs : List UInt8) (sf ah : Int) (f : ByteArray → Int) (k : Nat) (e : Ending) (w' : World) : Prop :=
  e = .returned (.bool (decide (ah = 0))) ∧ LIs w' B g cp SC kv bs sf (lessF ah) (decide (ah = 0)) f k ∧ Only (fun b => b = g) w w'
set_option maxHeartbeats 2000000 in
/-- A step: is it the one at which the log stops? -/
theorem fails_any (w : World) (B g : Nat) (cp kv : Value) (SC : Nat → Prop) (bs : List UInt8) (sf ah : Int) (f : ByteArray → Int) (k : Nat) (h : LIs w B g cp SC kv bs sf ah false f k) (ha : ah ≤ 9223372036854775807) :
    Calls Tryz.prog 27 #[.pointer (some ⟨g, 0, none⟩)] w (Step w B g cp kv SC bs sf ah f k) := by
  have hG := h.blk
  have HI := hide h
  obtain ⟨r0, r1, r2, r3, r4⟩ := quin_cells hG
  obtain ⟨f0, f1, f2, f3, f4⟩ := quin_free hG
  by_cases h0 : ah = 0
  · subst h0
    have HS : Hid (Step w B g cp kv SC bs sf 0 f k (.returned (.bool true)) (w.setCell ⟨g, 4, none⟩ (.bool true))) := ⟨rfl, by rw [five4 hG]; exact HI.out.row sf 0 true, (Only.refl (fun b => b = g) w).setCell (p := ⟨g, 4, none⟩) rfl _⟩
    clear hG h HI
    go_enter Tryz.func27, Tryz.ntmps27
    go_wp2
    go_ret
    exact HS.out
  · by_cases h1 : 0 < ah
    · have HS : Hid (Step w B g cp kv SC bs sf ah f k (.returned (.bool false)) (w.setCell ⟨g, 3, none⟩ (.int .i64 (ah - 1)))) := by
        refine ⟨by rw [decide_eq_false h0], ?_, (Only.refl (fun b => b = g) w).setCell (p := ⟨g, 3, none⟩) rfl _⟩
        rw [five3 hG, decide_eq_false h0, show lessF ah = ah - 1 from if_pos h1]
        exact HI.out.row sf (ah - 1) false
      clear hG h HI
      go_enter Tryz.func27, Tryz.ntmps27
      go_wp2
      go_ret
      exact HS.out
    · have HS : Hid (Step w B g cp kv SC bs sf ah f k (.returned (.bool false)) w) := by
        refine ⟨by rw [decide_eq_false h0], ?_, Only.refl _ _⟩
        rw [decide_eq_false h0, show lessF ah = ah from if_neg h1]
        exact HI.out
      clear hG h HI
      go_enter Tryz.func27, Tryz.ntmps27
      go_wp2
      go_ret
      exact HS.out
/-- What a record that is written leaves: whole, or half of it. -/
def Wrote (w : World) (B g : Nat) (cp kv : Value) (SC : Nat → Prop) (bs : List UInt8) (sf ah : Int) (f : ByteArray → Int) (k : Nat) (s : ByteArray) (e : Ending) (w' : World) : Prop :=
  e = .returned (errV 63 (if ah = 0 then 6 else 0)) ∧ ∃ kv', LIs w' B g cp SC kv' (bs ++ (if ah = 0 then (s.extract 0 (s.size / 2)).data.toList else s.data.toList)) sf (lessF ah) (decide (ah = 0)) f k ∧ Only (ft g SC kv) w w' ∧ (∀ b, ft g SC kv' b → ft g SC kv b ∨ w.heap.size ≤ b)
theorem wrote_of {w w1 w' : World} {B g : Nat} {cp kv kv' : Value} {SC : Nat → Prop} {bs : List UInt8} {sf ah : Int} {f : ByteArray → Int} {k : Nat} {s : ByteArray} {e : Ending} {st : Bool} {xs : List UInt8} {E : Int}
    (hst : decide (ah = 0) = st) (hE : (if ah = 0 then 6 else 0) = E) (hx : (if ah = 0 then (s.extract 0 (s.size / 2)).data.toList else s.data.toList) = xs)
    (h1 : Only (fun b => b = g) w w1) (h2 : LIs w' B g cp SC kv' (bs ++ xs) sf (lessF ah) st f k) (h3 : Only (ft g SC kv) w1 w') (h4 : ∀ b, ft g SC kv' b → ft g SC kv b ∨ w1.heap.size ≤ b) (he : e = .returned (errV 63 E)) : Wrote w B g cp kv SC bs sf ah f k s e w' := by
  refine ⟨by rw [hE]; exact he, kv', by rw [hst, hx]; exact h2, ((Only.refl _ w).trans h1 (fun b _ hb => Or.inl hb)).trans h3 (fun b _ hb => hb), fun b hb => (h4 b hb).imp id (fun h => Nat.le_trans h1.size h)⟩
set_option maxHeartbeats 4000000 in
theorem write_any (w : World) (B g : Nat) (cp kv : Value) (SC : Nat → Prop) (bs : List UInt8) (sf ah : Int) (f : ByteArray → Int) (k : Nat) (s : ByteArray) (h : LIs w B g cp SC kv bs sf ah false f k) (ha : ah ≤ 9223372036854775807) (hB : B ≤ w.heap.size) (hs : 2 ≤ s.size) (hs2 : s.size ≤ 1000) (hl : bs.length ≤ 100000) :
    Calls Tryz.prog 24 #[.pointer (some ⟨g, 0, none⟩), .string s] w (Wrote w B g cp kv SC bs sf ah f k s) := by
  have HF := hide (fails_any w B g cp kv SC bs sf ah f k h ha)
  have HW := hide (fun (w1 w' : World) (kv' : Value) (e : Ending) (st : Bool) (xs : List UInt8) (E : Int) => wrote_of (w := w) (w1 := w1) (w' := w') (B := B) (g := g) (cp := cp) (kv := kv) (kv' := kv') (SC := SC) (bs := bs) (sf := sf) (ah := ah) (f := f) (k := k) (s := s) (e := e) (st := st) (xs := xs) (E := E))
  clear h
  by_cases h0 : ah = 0
  · have HD := hide (decide_eq_true h0)
    have HZ := hide h0
    clear h0
    go_enter Tryz.func24, Tryz.ntmps24
    go_wp2_with (go_at_call 27; refine HF.out.mono ?_; rintro e w1 ⟨rfl, h1, ho1⟩; rw [HD.out])
    have HI1 := hide h1
    have HO1 := hide ho1
    have hB1 : B ≤ w1.heap.size := Nat.le_trans hB ho1.size
    have hG1 := h1.blk
    have hbyt := hide (show w1.ownsRow B 5 1 kv bs.length (byC bs) from h1.byt)
    obtain ⟨r0, r1, r2, r3, r4⟩ := quin_cells hG1
    obtain ⟨q, hq⟩ : ∃ q : Nat, s.size / 2 = q := ⟨_, rfl⟩
    have hex : (s.extract 0 q).size = q := by rw [ByteArray.size_extract]; omega
    have HEX := hide hex
    have HQ := hide hq
    have hq0 : (0 : Int) ≤ (q : Int) := by omega
    have hq1 : (q : Int) ≤ (s.size : Int) := by omega
    have hq2 : IntKind.i64.wrap ((s.size : Int) / 2) = (q : Int) := by rw [wrap_in (by omega) (by omega)]; omega
    have hq3 : 1 ≤ q := by omega
    clear hq
    clear h1 ho1 hG1 HF hex
    go_region_law (refine step_append_str _ rfl (.tmp 11) (.tmp 16) 60 9 rfl B 5 info_byte Tryz.underlying60 Tryz.underlying9 kv bs.length (byC bs) (by simp [Act.eval]) hbyt.out (s.extract 0 q) (by simp [Act.eval]) (by rw [HEX.out]; omega) (by rw [HEX.out]; omega) hB1 ?_; intro g3 c3 w3 ho3 hg3 hat3 hlt3; obtain ⟨hG3, hI3, hO3, hF3⟩ := (HI1.out.below (Below.drew (Below.refl _ _))).app (xs := (s.extract 0 q).data.toList) (by rw [List.length_append, size_list]) ho3 hg3 hat3; obtain ⟨s0, s1, s2, s3, s4⟩ := quin_cells hG3; obtain ⟨t0, t1, t2, t3, t4⟩ := quin_free hG3)
    all_goals
      go_wp2
      rw [five1 hG3]
      go_ret
      rw [show (s.extract 0 q).size = min q s.size by rw [HEX.out]; omega] at hI3 hO3 hF3
      exact HW.out w1.drew _ _ _ (decide (ah = 0)) _ 6 rfl (if_pos HZ.out) ((if_pos HZ.out).trans (by rw [HQ.out])) HO1.out.drew hI3 hO3 hF3 rfl
  · have HD := hide (decide_eq_false h0)
    have HZ := hide h0
    clear h0
    go_enter Tryz.func24, Tryz.ntmps24
    go_wp2_with (first | (go_at_call 27; refine HF.out.mono ?_; rintro e w1 ⟨rfl, h1, ho1⟩; rw [HD.out]; have HI1 := hide h1; have HO1 := hide ho1; have hB1 : B ≤ w1.heap.size := Nat.le_trans hB ho1.size; have hG1 := h1.blk; have hbyt := hide (show w1.ownsRow B 5 1 kv bs.length (byC bs) from h1.byt); obtain ⟨r0, r1, r2, r3, r4⟩ := quin_cells hG1; clear h1 ho1 hG1 HF) | (at_builtin; refine wpList_append_str _ rfl (.tmp 25) (.tmp 26) 60 9 rfl B 5 info_byte Tryz.underlying60 Tryz.underlying9 kv bs.length (byC bs) rfl hbyt.out s rfl (by omega) (by omega) hB1 ?_; intro g3 c3 w3 ho3 hg3 hat3 hlt3; obtain ⟨hG3, hI3, hO3, hF3⟩ := HI1.out.app (xs := s.data.toList) (by rw [List.length_append, size_list]) ho3 hg3 hat3; obtain ⟨s0, s1, s2, s3, s4⟩ := quin_cells hG3; obtain ⟨t0, t1, t2, t3, t4⟩ := quin_free hG3))
    rw [five1 hG3]
    go_ret
    exact HW.out w1 _ _ _ (decide (ah = 0)) _ 0 rfl (if_neg HZ.out) (if_neg HZ.out) HO1.out hI3 hO3 hF3 rfl
end Go.Proofs.YtgnpffkfbacejaaGreatDoor.Log
