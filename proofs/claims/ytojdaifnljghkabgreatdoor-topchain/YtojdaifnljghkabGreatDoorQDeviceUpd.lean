/-
  Contract of package device's Update over this translation: what it returns, what becomes of the device, and that all else stays as it was.
-/
import Derived.Test.YtojdaifnljghkabGreatDoorQDeviceObj
import Derived.Test.YtojdaifnljghkabGreatDoorQUpdObj
namespace Go.Proofs.YtojdaifnljghkabGreatDoor.Device
open Go.ChangeShapes Go.WideShapes Go.ChangeAt Go.RowKit
open Go.Proofs.YtojdaifnljghkabGreatDoor.M
set_option linter.unusedVariables false

/-- What Update reads: the device's cells, and the image that was handed in. -/
def UX (g b : Nat) (root : Int) (cp sp : Value) (nm : ByteArray) (v : Int) (cd : ByteArray) (pp aa : Int) (W : World) : Prop :=
  (∃ x rp, W.heap[g]? = some (.cells #[.int .i64 root, x, cp, sp, rp] 104)) ∧ W.heap[b]? = some (.cells #[.string nm, .int .i64 v, .string cd, .int .i64 pp, .int .i64 aa] 27)
theorem ux_drew {g b : Nat} {root : Int} {cp sp : Value} {nm cd : ByteArray} {v pp aa : Int} {W : World} (h : UX g b root cp sp nm v cd pp aa W) : UX g b root cp sp nm v cd pp aa W.drew := h
theorem ux_S {g b : Nat} {root : Int} {cp sp : Value} {nm cd : ByteArray} {v pp aa : Int} {W : World} (h : UX g b root cp sp nm v cd pp aa W) : (W.cell? ⟨g, 0, none⟩ = some (.int .i64 root) ∧ W.cell? ⟨g, 2, none⟩ = some cp ∧ W.cell? ⟨g, 3, none⟩ = some sp)
    ∧ (W.cell? ⟨b, 0, none⟩ = some (.string nm) ∧ W.cell? ⟨b, 1, none⟩ = some (.int .i64 v) ∧ W.cell? ⟨b, 2, none⟩ = some (.string cd) ∧ W.cell? ⟨b, 3, none⟩ = some (.int .i64 pp) ∧ W.cell? ⟨b, 4, none⟩ = some (.int .i64 aa)) := by
  obtain ⟨⟨x, rp, h1⟩, h2⟩ := h
  obtain ⟨c0, _, c2, c3, _⟩ := quin_cells h1
  exact ⟨⟨c0, c2, c3⟩, quin_cells h2⟩

set_option maxRecDepth 20000 in
set_option maxHeartbeats 4000000 in
theorem update_any (g : Nat) (cp sp rp : Value) (SC SS R : Nat → Prop) (d : DS) (a : Option Addr) (l : List (Int × Int × Int)) (n cap : Nat) (s : Sg) (w : World) (B : Nat) (h : DIs w B g cp sp rp SC SS R d) (hok : OkD d) (hn : n = l.length) (hm : n ≤ maxLen) (hr : RRow 3 certV w a l) (hs : szS s) (hh : Image.Has w) (hB : B ≤ w.heap.size) :
    Calls Tryz.prog 13 #[.pointer (some ⟨g, 0, none⟩), .slice a n cap, sgA s] w (Gone w B g (feet g SC SS R) (upeD d l s) (updD d l s)) := by
  have HOK := hide (okD_upd (l := l) hok hs)
  have DO := hide (fun (W : World) (hk : KB w W) => Update.doLaw d.root a l n cap cp SC d.f d.k sp SS d.t s W B hn hm (hr.below hk) (hh.below hk) (h.below hk).2.1 (h.below hk).2.2.1 hok.2.2.2.1 hs (Nat.le_trans hB (Below.size hk)))
  have HA := hide (fun (W : World) (hk : KB w W) => aft_below (aft_of h) hk)
  have HE := hide (show upeD d l s = doE d.root l d.f d.t s from rfl)
  have HT := hide (show updD d l s = { d with t := doT d.root l d.f d.t s } from rfl)
  have HSS := hide (fun k hk => (Slot.core.has h.2.2.1 k hk).2)
  obtain ⟨gc, mc, hcp, _⟩ := h.2.1
  subst hcp
  obtain ⟨gp, hgp, _⟩ := h.2.2.1
  subst hgp
  obtain ⟨nm, v, cd, pp, aa⟩ := s
  unfold sgA at DO ⊢
  simp only [] at DO ⊢
  have hK1 : KB w (w.alloc (.cells #[.string nm, .int .i64 v, .string cd, .int .i64 pp, .int .i64 aa] 27)) := below_new w _
  have hX1 : UX g w.heap.size d.root (.pointer (some ⟨gc, 0, none⟩)) (.pointer (some ⟨gp, 0, none⟩)) nm v cd pp aa (w.alloc (.cells #[.string nm, .int .i64 v, .string cd, .int .i64 pp, .int .i64 aa] 27)) := ⟨⟨_, _, (h.below hK1).1⟩, blk_new w _⟩
  have HXO := hide (fun (W W' : World) (hk : KB w W) (hx : UX g w.heap.size d.root (.pointer (some ⟨gc, 0, none⟩)) (.pointer (some ⟨gp, 0, none⟩)) nm v cd pp aa W) (ho : Only SS W W') => show UX g w.heap.size d.root (.pointer (some ⟨gc, 0, none⟩)) (.pointer (some ⟨gp, 0, none⟩)) nm v cd pp aa W' from ⟨by obtain ⟨x, rp, e⟩ := hx.1; exact ⟨x, rp, ho.heap e h.2.2.2.2.1.2.1⟩, ho.heap hx.2 (fun hk => absurd (HSS.out _ hk) (Nat.lt_irrefl _))⟩)
  clear h hok hn hm hr hs hh hB
  generalize upeD d l ⟨nm, v, cd, pp, aa⟩ = ue at *
  generalize updD d l ⟨nm, v, cd, pp, aa⟩ = ud at *
  generalize doE d.root l d.f d.t ⟨nm, v, cd, pp, aa⟩ = de at *
  generalize doT d.root l d.f d.t ⟨nm, v, cd, pp, aa⟩ = dt at *
  obtain ⟨⟨c0, c2, c3⟩, ⟨b0, b1, b2, b3, b4⟩⟩ := ux_S hX1
  go_enter Tryz.func13, Tryz.ntmps13
  go_wp2_with (fail)
  go_region_held3 (fun W => (W.cell? ⟨g, 0, none⟩ = some (.int .i64 d.root) ∧ W.cell? ⟨g, 2, none⟩ = some (.pointer (some ⟨gc, 0, none⟩)) ∧ W.cell? ⟨g, 3, none⟩ = some (.pointer (some ⟨gp, 0, none⟩)))
    ∧ (W.cell? ⟨w.heap.size, 0, none⟩ = some (.string nm) ∧ W.cell? ⟨w.heap.size, 1, none⟩ = some (.int .i64 v) ∧ W.cell? ⟨w.heap.size, 2, none⟩ = some (.string cd) ∧ W.cell? ⟨w.heap.size, 3, none⟩ = some (.int .i64 pp) ∧ W.cell? ⟨w.heap.size, 4, none⟩ = some (.int .i64 aa)))
    (exact ux_S (by with_reducible repeat (first | assumption | apply ux_drew)))
    ((go_at_call 57; refine (DO.out _ (by with_reducible repeat (first | assumption | apply kb_drew))).mono ?_; rintro e w2 ⟨SS', rfl, hs2, ho2, hf2⟩; have hA2 := aft_slt (HA.out _ (by with_reducible repeat (first | assumption | apply kb_drew))) hs2 ho2 hf2; have hX2 := HXO.out _ _ (by with_reducible repeat (first | assumption | apply kb_drew)) (by with_reducible repeat (first | assumption | apply ux_drew)) ho2; clear hs2 ho2 hf2))
  have HA2 := hide hA2
  clear hA2 hX2 hX1 hK1 c0 c2 c3 b0 b1 b2 b3 b4 DO HA HXO HSS
  go_wp2
  go_ret
  exact ⟨by rw [HE.out]; rfl, aft_left (by rw [HT.out]; with_reducible repeat (first | exact HA2.out | apply aft_drew)) HOK.out⟩
theorem updateLaw : UpdateLaw Dvc := by
  intro p S d a l n cap s w B h hn hm hr hs hh hB
  obtain ⟨g, cp, sp, rp, SC, SS, R, rfl, rfl, hd, hok⟩ := h
  refine (update_any g cp sp rp SC SS R d a l n cap s w B hd hok hn hm hr hs hh hB).mono ?_
  rintro e w' ⟨rfl, S', h1, h2, h3⟩
  exact ⟨S', rfl, h1, h2, h3⟩
end Go.Proofs.YtojdaifnljghkabGreatDoor.Device
