/-
  Package run's desk in memory: a pointer to the counts, a bank, and the map of what words want; newDesk.
-/
import Derived.Test.YtjkcplpmhjnahaaGreatDoorQRunWants
import Derived.Test.YtjkcplpmhjnahaaGreatDoorQRunBank
import Derived.Test.YtjkcplpmhjnahaaGreatDoorPack2
namespace Go.Proofs.YtjkcplpmhjnahaaGreatDoor.Run
open Go.ChangeShapes Go.WideShapes Go.ChangeAt Go.RowKit
open Go.Proofs.YtjkcplpmhjnahaaGreatDoor.M
set_option linter.unusedVariables false

def deskC (gc : Nat) (xs : List Int) (mb : Nat) : Array Value := (Value.pointer (some ⟨gc, 0, none⟩) :: (xs.map (Value.int .i64) ++ [Value.map (some mb)])).toArray
structure Dsk (W : World) (B g mb gc : Nat) (SC : Nat → Prop) (d : Dk) : Prop where
  blk : W.heap[g]? = some (.cells (deskC gc d.b mb) 73)
  cnt : Count.Cnt W B (.pointer (some ⟨gc, 0, none⟩)) SC d.f d.k
  map : WMap W mb 8 wD8
  len : d.b.length = 8
  ok : okAll d.b = true
  lo : B ≤ g ∧ B ≤ mb ∧ g ≠ mb
  gs : ¬ SC g
  ms : ¬ SC mb
theorem Dsk.only {W W' : World} {B g mb gc : Nat} {SC S : Nat → Prop} {d : Dk} (h : Dsk W B g mb gc SC d) (ho : Only S W W') (hn : ∀ b, (b = g ∨ b = mb ∨ SC b) → ¬ S b) : Dsk W' B g mb gc SC d :=
  ⟨ho.heap h.blk (hn g (Or.inl rfl)), Count.core.only h.cnt ho (fun b hb => hn b (Or.inr (Or.inr hb))), h.map.heap (ho.2.2.2.2 mb h.map.lt (hn mb (Or.inr (Or.inl rfl)))), h.len, h.ok, h.lo, h.gs, h.ms⟩
theorem Dsk.below {W W' : World} {B g mb gc : Nat} {SC : Nat → Prop} {d : Dk} (h : Dsk W B g mb gc SC d) (hb : Below W.heap.size W W') : Dsk W' B g mb gc SC d :=
  h.only (Only.of_below (S := fun _ => False) hb) (fun _ _ hf => hf)
/-- The blocks that a line may write. -/
def DS (g : Nat) (SC : Nat → Prop) (b : Nat) : Prop := b = g ∨ SC b
theorem Dsk.has {W : World} {B g mb gc : Nat} {SC : Nat → Prop} {d : Dk} (h : Dsk W B g mb gc SC d) : ∀ b, (b = g ∨ b = mb ∨ SC b) → B ≤ b ∧ b < W.heap.size := by
  rintro b (rfl | rfl | hb)
  · exact ⟨h.lo.1, blk_lt h.blk⟩
  · exact ⟨h.lo.2.1, h.map.lt⟩
  · exact Count.core.has h.cnt b hb
theorem Dsk.c0 {W : World} {B g mb gc : Nat} {SC : Nat → Prop} {d : Dk} (h : Dsk W B g mb gc SC d) : W.cell? ⟨g, 0, none⟩ = some (.pointer (some ⟨gc, 0, none⟩)) := by
  rw [cell_of_row W g _ _ _ _ h.blk]
  rfl
theorem Dsk.c9 {W : World} {B g mb gc : Nat} {SC : Nat → Prop} {d : Dk} (h : Dsk W B g mb gc SC d) : W.cell? ⟨g, 9, none⟩ = some (.map (some mb)) := by
  rw [cell_of_row W g _ _ _ _ h.blk]
  have h8 := h.len
  unfold deskC
  simp [h8]
theorem Dsk.at {W : World} {B g mb gc : Nat} {SC : Nat → Prop} {d : Dk} (h : Dsk W B g mb gc SC d) (j : Nat) (v : Value) (hv : (bankC d.b)[j]? = some v) : W.cell? ⟨g, 1 + j, none⟩ = some v := by
  rw [cell_of_row W g _ _ _ _ h.blk]
  unfold deskC
  unfold bankC at hv
  simp only [List.getElem?_toArray] at hv ⊢
  rw [Nat.add_comm, List.getElem?_cons_succ, List.getElem?_append_left]
  · exact hv
  · exact (List.getElem?_eq_some_iff.1 hv).1
set_option maxHeartbeats 2000000 in
theorem desk_new {w w1 W8 : World} {B gc : Nat} {SC : Nat → Prop} (hC : Count.Cnt w1 B (.pointer (some ⟨gc, 0, none⟩)) SC (fun _ => 0) 0) (hS : ∀ b, SC b → w.heap.size ≤ b) (hb1 : Below w.heap.size w w1) (hB : B ≤ w.heap.size)
    (hO : Only (fun k => k = w1.heap.size) (w1.alloc (.map #[] 0)) W8) (hM : WMap W8 w1.heap.size 8 wD8) :
    Dsk (W8.alloc (.cells (deskC gc noBank w1.heap.size) 73)) B W8.heap.size w1.heap.size gc SC dk0 ∧ (∀ b, (b = W8.heap.size ∨ b = w1.heap.size ∨ SC b) → w.heap.size ≤ b) ∧ Below w.heap.size w (W8.alloc (.cells (deskC gc noBank w1.heap.size) 73)) := by
  have h0 := hb1.size
  have hz : (w1.alloc (.map #[] 0)).heap.size = w1.heap.size + 1 := by simp
  have h1 := hO.size
  have hsc := fun b hb => (Count.core.has hC b hb).2
  have hC2 := Count.core.only (Count.core.below hC (below_new w1 (.map #[] 0))) hO (fun b hb e => by have := hsc b hb; omega)
  have hb2 : Below w.heap.size w W8 := (below_on hb1 (below_new w1 (.map #[] 0))).trans (hO.below (by omega) (fun k hk => by rw [show k = w1.heap.size from hk]; exact h0))
  refine ⟨⟨blk_new _ _, Count.core.below hC2 (below_new _ _), hM.heap (Go.RowKit.Below.heap_alloc W8 _ w1.heap.size hM.lt), rfl, by decide, ⟨by omega, by omega, by omega⟩, fun hs => ?_, fun hs => ?_⟩, ?_, below_on hb2 (below_new _ _)⟩
  · have := hsc _ hs; omega
  · have := hsc _ hs; omega
  · rintro b (rfl | rfl | hb)
    · omega
    · exact h0
    · exact hS b hb
set_option maxRecDepth 100000 in
theorem newDesk_any (w : World) (B : Nat) (hB : B ≤ w.heap.size) : Calls Tryz.prog 10 #[] w fun e w' => ∃ g mb gc SC, e = .returned (.pointer (some ⟨g, 0, none⟩)) ∧ Dsk w' B g mb gc SC dk0 ∧ (∀ b, (b = g ∨ b = mb ∨ SC b) → w.heap.size ≤ b) ∧ Below w.heap.size w w' := by
  have mk := run_makeMap (P := Tryz.prog) 71
  go_enter Tryz.func10, Tryz.ntmps10
  go_wp2_with (fail)
  refine (Count.new_any _ B hB).mono ?_
  rintro e w1 ⟨p, SC, rfl, hC, hS, hb1⟩
  obtain ⟨gc, mc, hgc, _⟩ := id hC
  subst hgc
  have own0 : WMap (w1.alloc (.map #[] 0)) w1.heap.size 0 (.map []) := World.ownsMap_made w1 _ _ _
  obtain ⟨W1, r1, o1, g1⟩ := wmap_put own0 (by omega) { data := #[101, 120, 116, 101, 110, 100] } kwExtend rfl (by decide) 0 2 1 rfl wD1 rfl
  obtain ⟨W2, r2, o2, g2⟩ := wmap_put o1 (by omega) { data := #[100, 105, 103, 101, 115, 116] } kwDigest rfl (by decide) 0 1 2 rfl wD2 rfl
  obtain ⟨W3, r3, o3, g3⟩ := wmap_put o2 (by omega) { data := #[109, 101, 97, 115, 117, 114, 101] } kwMeasure rfl (by decide) 1 0 3 rfl wD3 rfl
  obtain ⟨W4, r4, o4, g4⟩ := wmap_put o3 (by omega) { data := #[114, 97, 105, 115, 101] } kwRaise rfl (by decide) 1 1 4 rfl wD4 rfl
  obtain ⟨W5, r5, o5, g5⟩ := wmap_put o4 (by omega) { data := #[109, 97, 121] } kwMay rfl (by decide) 1 1 5 rfl wD5 rfl
  obtain ⟨W6, r6, o6, g6⟩ := wmap_put o5 (by omega) { data := #[112, 117, 98, 108, 105, 99] } kwPublic rfl (by decide) 0 1 6 rfl wD6 rfl
  obtain ⟨W7, r7, o7, g7⟩ := wmap_put o6 (by omega) { data := #[115, 105, 103, 110] } kwSign rfl (by decide) 0 3 7 rfl wD7 rfl
  obtain ⟨W8, r8, o8, g8⟩ := wmap_put o7 (by omega) { data := #[99, 104, 101, 99, 107] } kwCheck rfl (by decide) 0 4 8 rfl wD8 rfl
  have HC := hide hC
  have HS := hide hS
  have HB1 := hide hb1
  have HO := hide o8
  have HG := hide (And.intro g1 (And.intro g2 (And.intro g3 (And.intro g4 (And.intro g5 (And.intro g6 (And.intro g7 g8)))))))
  have HBB := hide hB
  clear hC hS hb1 own0 o1 o2 o3 o4 o5 o6 o7 o8 g1 g2 g3 g4 g5 g6 g7 g8 hB
  go_wp2
  go_ret
  obtain ⟨g1, g2, g3, g4, g5, g6, g7, g8⟩ := HG.out
  have hr : ∀ k, some w1.heap.size = some k → k = w1.heap.size ∨ (w1.alloc (.map #[] 0)).heap.size ≤ k := fun k e => Or.inl (Option.some.inj e).symm
  have hO := ((((((((Only.refl (fun k => k = w1.heap.size) (w1.alloc (.map #[] 0))).grown g1 hr).grown g2 hr).grown g3 hr).grown g4 hr).grown g5 hr).grown g6 hr).grown g7 hr).grown g8 hr
  obtain ⟨k1, k2, k3⟩ := desk_new HC.out HS.out HB1.out HBB.out hO HO.out
  exact ⟨_, _, _, SC, rfl, k1, k2, k3⟩
/-- What is so behind a line's work: the text and the error that it answers, and the desk. -/
def Done (w : World) (B g mb gc : Nat) (SC : Nat → Prop) (A : List UInt8 × Dk) (e : Ending) (w' : World) : Prop :=
  (∃ (t : ByteArray) (k : Int), 0 ≤ k ∧ k ≤ 9 ∧ e = .returned (.tuple #[.string t, errV 98 k]) ∧ A.1 = (if k = 0 then t.data.toList else errN k)) ∧ Dsk w' B g mb gc SC A.2 ∧ Only (DS g SC) w w'
theorem done_same {w w' : World} {B g mb gc : Nat} {SC : Nat → Prop} {d : Dk} {A : List UInt8 × Dk} {e : Ending} {t : ByteArray} {k : Int} (h : Dsk w B g mb gc SC d) (hb : Below w.heap.size w w') (h0 : 0 ≤ k) (h9 : k ≤ 9) (he : e = .returned (.tuple #[.string t, errV 98 k])) (hA : A = (if k = 0 then t.data.toList else errN k, d)) : Done w B g mb gc SC A e w' := by
  subst hA
  exact ⟨⟨t, k, h0, h9, he, rfl⟩, h.below hb, Only.of_below hb⟩
theorem desk_set {gc mb : Nat} {xs ys : List Int} (hx : xs.length = 8) (hy : ys.length = 8) : setFrom (deskC gc xs mb) 1 (bankC ys).toList = deskC gc ys mb := by
  match xs, hx, ys, hy with
  | [a0, a1, a2, a3, a4, a5, a6, a7], _, [b0, b1, b2, b3, b4, b5, b6, b7], _ => simp [setFrom, deskC, bankC]
/-- A bank in a block of its own, and the desk's bank written over. -/
theorem ext_done {w w1 : World} {B g mb gc : Nat} {SC : Nat → Prop} {d : Dk} {ys : List Int} (h : Dsk w B g mb gc SC d) (hb : Below w.heap.size w w1) (hy : ys.length = 8) (hok : okAll ys = true) :
    ((w1.alloc (.cells #[.int .i64 0, .int .i64 0, .int .i64 0, .int .i64 0, .int .i64 0, .int .i64 0, .int .i64 0, .int .i64 0] 30)).setRow w1.heap.size (bankC ys)).heap[w1.heap.size]? = some (.cells (bankC ys) 30) ∧
    ((w1.alloc (.cells #[.int .i64 0, .int .i64 0, .int .i64 0, .int .i64 0, .int .i64 0, .int .i64 0, .int .i64 0, .int .i64 0] 30)).setRow w1.heap.size (bankC ys)).heap[g]? = some (.cells (deskC gc d.b mb) 73) ∧
    (((w1.alloc (.cells #[.int .i64 0, .int .i64 0, .int .i64 0, .int .i64 0, .int .i64 0, .int .i64 0, .int .i64 0, .int .i64 0] 30)).setRow w1.heap.size (bankC ys)).setRow g (setFrom (deskC gc d.b mb) 1 (bankC ys).toList)).heap[w1.heap.size]? = some (.cells (bankC ys) 30) ∧
    Dsk (((w1.alloc (.cells #[.int .i64 0, .int .i64 0, .int .i64 0, .int .i64 0, .int .i64 0, .int .i64 0, .int .i64 0, .int .i64 0] 30)).setRow w1.heap.size (bankC ys)).setRow g (setFrom (deskC gc d.b mb) 1 (bankC ys).toList)) B g mb gc SC { d with b := ys } ∧
    Only (DS g SC) w (((w1.alloc (.cells #[.int .i64 0, .int .i64 0, .int .i64 0, .int .i64 0, .int .i64 0, .int .i64 0, .int .i64 0, .int .i64 0] 30)).setRow w1.heap.size (bankC ys)).setRow g (setFrom (deskC gc d.b mb) 1 (bankC ys).toList)) := by
  rw [World.setRow_alloc_new, desk_set h.len hy]
  have hb2 := below_on hb (below_new w1 (.cells (bankC ys) 30))
  have h2 := h.below hb2
  have hg : g < w1.heap.size := Nat.lt_of_lt_of_le (blk_lt h.blk) hb.size
  have hn : w1.heap.size ≠ g := by omega
  have ho : Only (fun b => b = g) (w1.alloc (.cells (bankC ys) 30)) ((w1.alloc (.cells (bankC ys) 30)).setRow g (deskC gc ys mb)) := (Only.refl (fun b => b = g) _).setRow (b := g) rfl _
  refine ⟨blk_new _ _, h2.blk, ho.heap (blk_new _ _) hn, ⟨?_, ?_, ?_, hy, hok, h2.lo, h2.gs, h2.ms⟩, (Only.of_below (S := DS g SC) hb2).trans ho (fun k _ hk => Or.inl hk)⟩
  · exact setRow_heap _ _ _ _ _ _ h2.blk
  · exact Count.core.only h2.cnt ho (fun b hb' e => h2.gs (by rw [← e]; exact hb'))
  · exact h2.map.heap (ho.2.2.2.2 mb h2.map.lt (fun e => h2.lo.2.2 e.symm))
end Go.Proofs.YtjkcplpmhjnahaaGreatDoor.Run
