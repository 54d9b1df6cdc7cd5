/-
  Package run's (*desk).do at the words sign, check.
-/
import Derived.Test.YtjkcplpmhjnahaaGreatDoorQRunDo
import Derived.Test.YtjkcplpmhjnahaaGreatDoorPack1
namespace Go.Proofs.YtjkcplpmhjnahaaGreatDoor.Run
open Go.ChangeShapes Go.WideShapes Go.ChangeAt Go.RowKit
open Go.Proofs.YtjkcplpmhjnahaaGreatDoor.M Go.Proofs.YtjkcplpmhjnahaaGreatDoor.Image
set_option linter.unusedVariables false
set_option linter.unusedSimpArgs false

set_option maxRecDepth 100000 in
set_option maxHeartbeats 4000000 in
theorem do_sign (w : World) (B g mb gc : Nat) (SC : Nat → Prop) (d : Dk) (p0 : ByteArray) (hp : p0.data.toList = kwSign) (h : Dsk w B g mb gc SC d) (hh : HasF w B) (a : Option Addr) (cap : Nat) (nv : Value) (x k m : Nat) (hn : NumsAt w g SC a [x, k, m]) :
    Calls Tryz.prog 47 #[.pointer (some ⟨g, 0, none⟩), .string p0, nv, .slice a 3 cap] w (Done w B g mb gc SC (doL d kwSign [] [x, k, m])) := by
  have qExtend : (p0.toList == [101, 120, 116, 101, 110, 100]) = false := tx_no (by rw [hp]; decide)
  have qDigest : (p0.toList == [100, 105, 103, 101, 115, 116]) = false := tx_no (by rw [hp]; decide)
  have qMeasure : (p0.toList == [109, 101, 97, 115, 117, 114, 101]) = false := tx_no (by rw [hp]; decide)
  have qRaise : (p0.toList == [114, 97, 105, 115, 101]) = false := tx_no (by rw [hp]; decide)
  have qMay : (p0.toList == [109, 97, 121]) = false := tx_no (by rw [hp]; decide)
  have qPublic : (p0.toList == [112, 117, 98, 108, 105, 99]) = false := tx_no (by rw [hp]; decide)
  have qSign : (p0.toList == [115, 105, 103, 110]) = true := tx_yes (by rw [hp]; rfl)
  have HD := hide h
  obtain ⟨b, off, rfl, hc⟩ := nums_some hn
  have CE : Hid (∀ W, Kb w W → W.cell? ⟨b, off, none⟩ = some (.int .i64 x) ∧ W.cell? ⟨b, off + 1, none⟩ = some (.int .i64 k) ∧ W.cell? ⟨b, off + 2, none⟩ = some (.int .i64 m)) := fun W hW => ⟨hc W (lx_kb hW) 0 x rfl, hc W (lx_kb hW) 1 k rfl, hc W (lx_kb hW) 2 m rfl⟩
  have hp1 := sigP_rng (x : Int) (k : Int) (m : Int)
  have hp2 := sigA_rng (x : Int) (k : Int) (m : Int)
  have SG := hide (fun W => Key.sign_any (x : Int) (k : Int) (m : Int) W)
  have NU := hide (fun W (hW : Kb w W) => seal_any (sigP (x : Int) (k : Int) (m : Int)) (sigA (x : Int) (k : Int) (m : Int)) (errV 98 (sigC (x : Int) (k : Int) (m : Int))) W hp1.1 hp1.2 hp2.1 hp2.2 (hh.kb h hW))
  have HA : Hid (0 ≤ sigC (x : Int) (k : Int) (m : Int) ∧ sigC (x : Int) (k : Int) (m : Int) ≤ 9 ∧ doL d kwSign [] [x, k, m] = (if sigC (x : Int) (k : Int) (m : Int) = 0 then ({ data := (digs (sigP (x : Int) (k : Int) (m : Int)) ++ [32] ++ digs (sigA (x : Int) (k : Int) (m : Int))).toArray } : ByteArray).data.toList else errN (sigC (x : Int) (k : Int) (m : Int)), d)) := by
    have hE : doL d kwSign [] [x, k, m] = (if sigC (x : Int) (k : Int) (m : Int) = 0 then (digs (sigP (x : Int) (k : Int) (m : Int)) ++ [32] ++ digs (sigA (x : Int) (k : Int) (m : Int)), d) else (errN (sigC (x : Int) (k : Int) (m : Int)), d)) := rfl
    rw [hE]
    refine ⟨?_, ?_, ?_⟩
    · unfold sigC; repeat (first | split | omega)
    · unfold sigC; repeat (first | split | omega)
    · split <;> rfl
  have K0 := kb_refl w
  obtain ⟨c0, c1, c2⟩ := CE.out w K0
  unfold sealC at SG
  generalize ({ data := (digs (sigP (x : Int) (k : Int) (m : Int)) ++ [32] ++ digs (sigA (x : Int) (k : Int) (m : Int))).toArray } : ByteArray) = tx at *
  generalize sigP (x : Int) (k : Int) (m : Int) = sp at *
  generalize sigA (x : Int) (k : Int) (m : Int) = sa at *
  generalize sigC (x : Int) (k : Int) (m : Int) = sc at *
  clear h hh hn hc hp hp1 hp2
  go_enter Tryz.func47, Tryz.ntmps47
  go_wp2_with (fail)
  go_region_held3 (fun W => W.cell? ⟨b, off, none⟩ = some (.int .i64 x) ∧ W.cell? ⟨b, off + 1, none⟩ = some (.int .i64 k) ∧ W.cell? ⟨b, off + 2, none⟩ = some (.int .i64 m))
    (exact CE.out _ (by with_reducible repeat (first | assumption | apply kb_drew)))
    (first | (go_at_call 66; refine (SG.out _).mono ?_; rintro e w5 ⟨rfl, hb5⟩; have K5 := kb_below (w := w) (by with_reducible repeat (first | assumption | apply kb_drew)) hb5; clear hb5; obtain ⟨e0, e1, e2⟩ := CE.out _ K5) | (go_at_call 65; refine (NU.out _ (by with_reducible repeat (first | assumption | apply kb_drew))).mono ?_; rintro e w6 ⟨rfl, hb6⟩; have K6 := kb_below (w := w) (by with_reducible repeat (first | assumption | apply kb_drew)) hb6; clear hb6; obtain ⟨f0, f1, f2⟩ := CE.out _ K6))
  all_goals
    go_wp2
    go_ret2
    exact done_same HD.out (show Kb w _ from (by with_reducible repeat (first | assumption | apply kb_drew))) HA.out.1 HA.out.2.1 rfl HA.out.2.2
set_option maxRecDepth 100000 in
set_option maxHeartbeats 4000000 in
theorem do_check (w : World) (B g mb gc : Nat) (SC : Nat → Prop) (d : Dk) (p0 : ByteArray) (hp : p0.data.toList = kwCheck) (h : Dsk w B g mb gc SC d) (hh : HasF w B) (a : Option Addr) (cap : Nat) (nv : Value) (q m p s : Nat) (hn : NumsAt w g SC a [q, m, p, s]) :
    Calls Tryz.prog 47 #[.pointer (some ⟨g, 0, none⟩), .string p0, nv, .slice a 4 cap] w (Done w B g mb gc SC (doL d kwCheck [] [q, m, p, s])) := by
  have qExtend : (p0.toList == [101, 120, 116, 101, 110, 100]) = false := tx_no (by rw [hp]; decide)
  have qDigest : (p0.toList == [100, 105, 103, 101, 115, 116]) = false := tx_no (by rw [hp]; decide)
  have qMeasure : (p0.toList == [109, 101, 97, 115, 117, 114, 101]) = false := tx_no (by rw [hp]; decide)
  have qRaise : (p0.toList == [114, 97, 105, 115, 101]) = false := tx_no (by rw [hp]; decide)
  have qMay : (p0.toList == [109, 97, 121]) = false := tx_no (by rw [hp]; decide)
  have qPublic : (p0.toList == [112, 117, 98, 108, 105, 99]) = false := tx_no (by rw [hp]; decide)
  have qSign : (p0.toList == [115, 105, 103, 110]) = false := tx_no (by rw [hp]; decide)
  have qCheck : (p0.toList == [99, 104, 101, 99, 107]) = true := tx_yes (by rw [hp]; rfl)
  have HD := hide h
  obtain ⟨b, off, rfl, hc⟩ := nums_some hn
  have CE : Hid (∀ W, Kb w W → W.cell? ⟨b, off, none⟩ = some (.int .i64 q) ∧ W.cell? ⟨b, off + 1, none⟩ = some (.int .i64 m) ∧ W.cell? ⟨b, off + 2, none⟩ = some (.int .i64 p) ∧ W.cell? ⟨b, off + 3, none⟩ = some (.int .i64 s)) := fun W hW => ⟨hc W (lx_kb hW) 0 q rfl, hc W (lx_kb hW) 1 m rfl, hc W (lx_kb hW) 2 p rfl, hc W (lx_kb hW) 3 s rfl⟩
  have CK := hide (fun W => Key.check_any (q : Int) (m : Int) (p : Int) (s : Int) W)
  have HA : Hid (0 ≤ chkC (q : Int) (m : Int) (p : Int) (s : Int) ∧ chkC (q : Int) (m : Int) (p : Int) (s : Int) ≤ 9 ∧ doL d kwCheck [] [q, m, p, s] = (if chkC (q : Int) (m : Int) (p : Int) (s : Int) = 0 then ({ data := (if chkB (q : Int) (m : Int) (p : Int) (s : Int) = true then ansYes else ansNo).toArray } : ByteArray).data.toList else errN (chkC (q : Int) (m : Int) (p : Int) (s : Int)), d)) := by
    have hE : doL d kwCheck [] [q, m, p, s] = (if rigC (q : Int) (m : Int) (p : Int) (s : Int) = 1 then (errN 1, d) else if rigC (q : Int) (m : Int) (p : Int) (s : Int) = 0 then (ansYes, d) else (ansNo, d)) := rfl
    rw [hE]
    rcases rig_chk (q : Int) (m : Int) (p : Int) (s : Int) with ⟨e1, e2, e3⟩ | ⟨e1, e2, e3⟩ | ⟨e1, e2, e3⟩
    all_goals
      rw [e1, e2, e3]
      exact ⟨by omega, by omega, rfl⟩
  have K0 := kb_refl w
  obtain ⟨c0, c1, c2, c3⟩ := CE.out w K0
  unfold sealC at CK
  generalize chkB (q : Int) (m : Int) (p : Int) (s : Int) = cb at *
  generalize chkC (q : Int) (m : Int) (p : Int) (s : Int) = cc at *
  have WH := hide (fun (v : Value) (W : World) => whether_any cb v W)
  generalize ({ data := (if cb = true then ansYes else ansNo).toArray } : ByteArray) = tx at *
  clear h hh hn hc hp
  go_enter Tryz.func47, Tryz.ntmps47
  go_wp2_with (fail)
  go_region_held3 (fun W => W.cell? ⟨b, off, none⟩ = some (.int .i64 q) ∧ W.cell? ⟨b, off + 1, none⟩ = some (.int .i64 m) ∧ W.cell? ⟨b, off + 2, none⟩ = some (.int .i64 p) ∧ W.cell? ⟨b, off + 3, none⟩ = some (.int .i64 s))
    (exact CE.out _ (by with_reducible repeat (first | assumption | apply kb_drew)))
    (first | (go_at_call 67; refine (CK.out _).mono ?_; rintro e w5 ⟨rfl, hb5⟩; have K5 := kb_below (w := w) (by with_reducible repeat (first | assumption | apply kb_drew)) hb5; clear hb5; obtain ⟨e0, e1, e2, e3⟩ := CE.out _ K5) | (go_at_call 61; refine (WH.out _ _).mono ?_; rintro e w6 ⟨rfl, rfl⟩))
  all_goals
    go_wp2
    go_ret2
    exact done_same HD.out (show Kb w _ from (by with_reducible repeat (first | assumption | apply kb_drew))) HA.out.1 HA.out.2.1 rfl HA.out.2.2
end Go.Proofs.YtjkcplpmhjnahaaGreatDoor.Run
