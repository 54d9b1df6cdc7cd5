/-
  Package run's (*desk).do at the words extend, raise.
-/
import Derived.Test.YtjkcplpmhjnahaaGreatDoorQRunDo
import Derived.Test.YtjkcplpmhjnahaaGreatDoorPack1
namespace Go.Proofs.YtjkcplpmhjnahaaGreatDoor.Run
open Go.ChangeShapes Go.WideShapes Go.ChangeAt Go.RowKit
open Go.Proofs.YtjkcplpmhjnahaaGreatDoor.M Go.Proofs.YtjkcplpmhjnahaaGreatDoor.Image
set_option linter.unusedVariables false
set_option linter.unusedSimpArgs false

theorem done_dr {w w5 w' : World} {B g mb gc : Nat} {SC : Nat → Prop} {A : List UInt8 × Dk} {e : Ending} (hb : Kb w5 w') (h : Done w B g mb gc SC A e w5) : Done w B g mb gc SC A e w' := ⟨h.1, h.2.1.below hb, h.2.2.after hb⟩
/-- Raised: what becomes of the desk. -/
def Raised (w : World) (B g mb gc : Nat) (SC : Nat → Prop) (d : Dk) (nm : ByteArray) (n : Nat) (W : World) : Prop := Dsk W B g mb gc SC (doL d kwRaise nm.data.toList [n]).2 ∧ Only (DS g SC) w W
/-- Ahead of it, or behind it. -/
def Wr (w : World) (B g mb gc : Nat) (SC : Nat → Prop) (d : Dk) (nm : ByteArray) (n : Nat) (W : World) : Prop := Dsk W B g mb gc SC d ∨ Raised w B g mb gc SC d nm n W
theorem wr_drew {w W : World} {B g mb gc n : Nat} {SC : Nat → Prop} {d : Dk} {nm : ByteArray} (h : Wr w B g mb gc SC d nm n W) : Wr w B g mb gc SC d nm n W.drew := by
  have hb : Below W.heap.size W W.drew := Below.drew (Below.refl _ _)
  rcases h with h | h
  · exact Or.inl (h.below hb)
  · exact Or.inr ⟨h.1.below hb, h.2.after hb⟩
theorem raised {w W w' : World} {B g mb gc n : Nat} {SC : Nat → Prop} {d : Dk} {nm : ByteArray} {e x : Ending} (h : Dsk w B g mb gc SC d) (hW : Kb w W) (hD : e = x ∧ Count.Cnt w' B (.pointer (some ⟨gc, 0, none⟩)) SC (raiF d.f d.k nm (n : Int)) (raiK d.f d.k nm (n : Int)) ∧ Only SC W w') : e = x ∧ Raised w B g mb gc SC d nm n w' := by
  obtain ⟨he, hc, ho⟩ := hD
  have h2 := h.below hW
  refine ⟨he, ?_, (Only.of_below (S := DS g SC) hW).trans ho (fun _ _ hk => Or.inr hk)⟩
  have hE : (doL d kwRaise nm.data.toList [n]).2 = { d with f := raiF d.f d.k nm (n : Int), k := raiK d.f d.k nm (n : Int) } := by
    have hE : doL d kwRaise nm.data.toList [n] = (if raiE d.f d.k nm (n : Int) = 0 then (if raiB d.f d.k nm (n : Int) = true then ansYes else ansNo, { d with f := raiF d.f d.k nm (n : Int), k := raiK d.f d.k nm (n : Int) }) else (errN (raiE d.f d.k nm (n : Int)), d)) := rfl
    rw [hE]
    by_cases hz : raiE d.f d.k nm (n : Int) = 0
    · rw [if_pos hz]
    · have hnb : ¬ raiB d.f d.k nm (n : Int) = true := fun hb => hz (raiE_rise hb)
      rw [if_neg hz, raiF_no hnb, raiK_no hnb]
  rw [hE]
  exact ⟨ho.heap h2.blk h2.gs, hc, h2.map.heap (ho.2.2.2.2 mb h2.map.lt h2.ms), h2.len, h2.ok, h2.lo, h2.gs, h2.ms⟩
theorem raise_done {w w5 w' : World} {B g mb gc n : Nat} {SC : Nat → Prop} {d : Dk} {nm : ByteArray} {e : Ending} {t : ByteArray} {k : Int} (h : Raised w B g mb gc SC d nm n w5) (hb : Kb w5 w') (hA : 0 ≤ k ∧ k ≤ 9 ∧ (doL d kwRaise nm.data.toList [n]).1 = (if k = 0 then t.data.toList else errN k)) (he : e = .returned (.tuple #[.string t, errV 98 k])) : Done w B g mb gc SC (doL d kwRaise nm.data.toList [n]) e w' :=
  ⟨⟨t, k, hA.1, hA.2.1, he, hA.2.2⟩, h.1.below hb, h.2.after hb⟩
set_option maxRecDepth 100000 in
set_option maxHeartbeats 4000000 in
theorem do_extend (w : World) (B g mb gc : Nat) (SC : Nat → Prop) (d : Dk) (p0 : ByteArray) (hp : p0.data.toList = kwExtend) (h : Dsk w B g mb gc SC d) (hh : HasF w B) (a : Option Addr) (cap : Nat) (nv : Value) (n m : Nat) (hn : NumsAt w g SC a [n, m]) (h1 : n < 10000000) (h2 : m < 10000000) :
    Calls Tryz.prog 47 #[.pointer (some ⟨g, 0, none⟩), .string p0, nv, .slice a 2 cap] w (Done w B g mb gc SC (doL d kwExtend [] [n, m])) := by
  have qExtend : (p0.toList == [101, 120, 116, 101, 110, 100]) = true := tx_yes (by rw [hp]; rfl)
  obtain ⟨b, off, rfl, hc⟩ := nums_some hn
  have CE : Hid (∀ W, Lx w g SC W → W.cell? ⟨b, off, none⟩ = some (.int .i64 n) ∧ W.cell? ⟨b, off + 1, none⟩ = some (.int .i64 m)) := fun W hW => ⟨hc W hW 0 n rfl, hc W hW 1 m rfl⟩
  have EX := hide (fun W (hW : Kb w W) => (extend_any W B g mb gc SC d n m (h.below hW) h1 h2 (hh.on (h.base (lx_kb hW)))).mono (fun e w' hD => (done_on hW hD : Done w B g mb gc SC (doL d kwExtend [] [n, m]) e w')))
  have K0 := kb_refl w
  have L0 := lx_refl w g SC
  obtain ⟨c0, c1⟩ := CE.out w L0
  generalize doL d kwExtend [] [n, m] = AA at *
  clear h hh hn hc hp h1 h2
  go_enter Tryz.func47, Tryz.ntmps47
  go_wp2_with (fail)
  go_region_held3 (fun W => W.cell? ⟨b, off, none⟩ = some (.int .i64 n) ∧ W.cell? ⟨b, off + 1, none⟩ = some (.int .i64 m))
    (exact CE.out _ (by with_reducible repeat (first | assumption | apply lx_drew)))
    ((go_at_call 57; refine (EX.out _ (by with_reducible repeat (first | assumption | apply kb_drew))).mono ?_; rintro e w5 ⟨⟨t5, k5, k50, k59, rfl, hA5⟩, hD5, hL5⟩; have L5 : Lx w g SC w5 := hL5; obtain ⟨e0, e1⟩ := CE.out _ L5))
  all_goals
    have HD5 := hide hD5
    have HL5 := hide hL5
    clear hD5 hL5 L5
    go_wp2
    go_ret2
    exact done_dr (by with_reducible repeat (first | exact kb_refl _ | apply kb_drew)) ⟨⟨t5, k5, k50, k59, rfl, hA5⟩, HD5.out, HL5.out⟩
set_option maxRecDepth 100000 in
set_option maxHeartbeats 4000000 in
theorem do_raise (w : World) (B g mb gc : Nat) (SC : Nat → Prop) (d : Dk) (p0 : ByteArray) (hp : p0.data.toList = kwRaise) (h : Dsk w B g mb gc SC d) (hh : HasF w B) (a : Option Addr) (cap : Nat) (nv : Value) (nm : ByteArray) (n : Nat) (hm : NameAt w g SC nv nm) (hz : nm.size ≤ 3000) (hn : NumsAt w g SC a [n]) :
    Calls Tryz.prog 47 #[.pointer (some ⟨g, 0, none⟩), .string p0, nv, .slice a 1 cap] w (Done w B g mb gc SC (doL d kwRaise nm.data.toList [n])) := by
  have qExtend : (p0.toList == [101, 120, 116, 101, 110, 100]) = false := tx_no (by rw [hp]; decide)
  have qDigest : (p0.toList == [100, 105, 103, 101, 115, 116]) = false := tx_no (by rw [hp]; decide)
  have qMeasure : (p0.toList == [109, 101, 97, 115, 117, 114, 101]) = false := tx_no (by rw [hp]; decide)
  have qRaise : (p0.toList == [114, 97, 105, 115, 101]) = true := tx_yes (by rw [hp]; rfl)
  obtain ⟨b, off, rfl, hc⟩ := nums_some hn
  obtain ⟨bm, om, cm, rfl, hcm⟩ := hm
  have CE : Hid (∀ W, Lx w g SC W → W.cell? ⟨bm, om, none⟩ = some (.string nm) ∧ W.cell? ⟨b, off, none⟩ = some (.int .i64 n)) := fun W hW => ⟨hcm W hW, hc W hW 0 n rfl⟩
  have RA := hide (fun W (hW : Kb w W) => (Count.raiseStay _ SC d.f d.k nm (n : Int) W B (h.below hW).cnt (by omega)).mono (fun e w' hD => (raised h hW hD : e = .returned (.tuple #[.bool (raiB d.f d.k nm (n : Int)), errV 98 (raiE d.f d.k nm (n : Int))]) ∧ Raised w B g mb gc SC d nm n w')))
  have HA : Hid (0 ≤ raiE d.f d.k nm (n : Int) ∧ raiE d.f d.k nm (n : Int) ≤ 9 ∧ (doL d kwRaise nm.data.toList [n]).1 = (if raiE d.f d.k nm (n : Int) = 0 then ({ data := (if raiB d.f d.k nm (n : Int) = true then ansYes else ansNo).toArray } : ByteArray).data.toList else errN (raiE d.f d.k nm (n : Int)))) := by
    have hE : doL d kwRaise nm.data.toList [n] = (if raiE d.f d.k nm (n : Int) = 0 then (if raiB d.f d.k nm (n : Int) = true then ansYes else ansNo, { d with f := raiF d.f d.k nm (n : Int), k := raiK d.f d.k nm (n : Int) }) else (errN (raiE d.f d.k nm (n : Int)), d)) := rfl
    rw [hE]
    refine ⟨?_, ?_, ?_⟩
    · unfold raiE; repeat (first | split | omega)
    · unfold raiE; repeat (first | split | omega)
    · split <;> rfl
  have K0 := kb_refl w
  have L0 := lx_refl w g SC
  have D0 : Wr w B g mb gc SC d nm n w := Or.inl h
  have c9 := h.c0
  obtain ⟨c0, c1⟩ := CE.out w L0
  have HW9 : Hid (∀ W, Wr w B g mb gc SC d nm n W → W.cell? ⟨g, 0, none⟩ = some (.pointer (some ⟨gc, 0, none⟩))) := fun W hW => by
    rcases hW with hW | hW
    · exact hW.c0
    · exact hW.1.c0
  have WH := hide (fun (v : Value) (W : World) => whether_any (raiB d.f d.k nm (n : Int)) v W)
  generalize raiE d.f d.k nm (n : Int) = re at *
  generalize raiB d.f d.k nm (n : Int) = rb at *
  generalize ({ data := (if rb = true then ansYes else ansNo).toArray } : ByteArray) = tx at *
  clear h hh hn hc hp hz hcm
  go_enter Tryz.func47, Tryz.ntmps47
  go_wp2_with (fail)
  go_region_held3 (fun W => W.cell? ⟨g, 0, none⟩ = some (.pointer (some ⟨gc, 0, none⟩)) ∧ W.cell? ⟨bm, om, none⟩ = some (.string nm) ∧ W.cell? ⟨b, off, none⟩ = some (.int .i64 n))
    (exact ⟨HW9.out _ (by with_reducible repeat (first | assumption | apply wr_drew)), CE.out _ (by with_reducible repeat (first | assumption | apply lx_drew))⟩)
    (first | (go_at_call 62; refine (RA.out _ (by with_reducible repeat (first | assumption | apply kb_drew))).mono ?_; rintro e w5 ⟨rfl, hR5⟩; have L5 : Lx w g SC w5 := hR5.2; have D5 : Wr w B g mb gc SC d nm n w5 := Or.inr hR5; obtain ⟨e0, e1⟩ := CE.out _ L5; have e9 := HW9.out _ D5) | (go_at_call 61; refine (WH.out _ _).mono ?_; rintro e w6 ⟨rfl, rfl⟩))
  all_goals
    have HR5 := hide hR5
    clear hR5 L5 D5 D0 L0 K0
    go_wp2
    go_ret2
    exact raise_done HR5.out (by with_reducible repeat (first | exact kb_refl _ | apply kb_drew)) HA.out rfl
end Go.Proofs.YtjkcplpmhjnahaaGreatDoor.Run
