/-
  Package run's (*desk).do at the words digest, measure, public, may.
-/
import Derived.Test.YtjkcplpmhjnahaaGreatDoorQRunDo
import Derived.Test.YtjkcplpmhjnahaaGreatDoorPack1
namespace Go.Proofs.YtjkcplpmhjnahaaGreatDoor.Run
open Go.ChangeShapes Go.WideShapes Go.ChangeAt Go.RowKit
open Go.Proofs.YtjkcplpmhjnahaaGreatDoor.M Go.Proofs.YtjkcplpmhjnahaaGreatDoor.Image
set_option linter.unusedVariables false
set_option linter.unusedSimpArgs false

set_option maxRecDepth 100000 in
set_option maxHeartbeats 4000000 in
theorem do_digest (w : World) (B g mb gc : Nat) (SC : Nat → Prop) (d : Dk) (p0 : ByteArray) (hp : p0.data.toList = kwDigest) (h : Dsk w B g mb gc SC d) (hh : HasF w B) (a : Option Addr) (cap : Nat) (nv : Value) (n : Nat) (hn : NumsAt w g SC a [n]) :
    Calls Tryz.prog 47 #[.pointer (some ⟨g, 0, none⟩), .string p0, nv, .slice a 1 cap] w (Done w B g mb gc SC (doL d kwDigest [] [n])) := by
  have qExtend : (p0.toList == [101, 120, 116, 101, 110, 100]) = false := tx_no (by rw [hp]; decide)
  have qDigest : (p0.toList == [100, 105, 103, 101, 115, 116]) = true := tx_yes (by rw [hp]; rfl)
  have HD := hide h
  obtain ⟨b, off, rfl, hc⟩ := nums_some hn
  obtain ⟨b0, b1, b2, b3, b4, b5, b6, b7, hbs⟩ := bank_split h.len
  have CE : Hid (∀ W, Kb w W → (W.cell? ⟨g, 1, none⟩ = some (.int .i64 b0) ∧ W.cell? ⟨g, 2, none⟩ = some (.int .i64 b1) ∧ W.cell? ⟨g, 3, none⟩ = some (.int .i64 b2) ∧ W.cell? ⟨g, 4, none⟩ = some (.int .i64 b3) ∧ W.cell? ⟨g, 5, none⟩ = some (.int .i64 b4) ∧ W.cell? ⟨g, 6, none⟩ = some (.int .i64 b5) ∧ W.cell? ⟨g, 7, none⟩ = some (.int .i64 b6) ∧ W.cell? ⟨g, 8, none⟩ = some (.int .i64 b7)) ∧ W.cell? ⟨b, off, none⟩ = some (.int .i64 n)) := fun W hW => by
    have hD := h.below hW
    have ha := fun j v hv => hD.at j v hv
    rw [hbs] at ha
    exact ⟨⟨ha 0 _ rfl, ha 1 _ rfl, ha 2 _ rfl, ha 3 _ rfl, ha 4 _ rfl, ha 5 _ rfl, ha 6 _ rfl, ha 7 _ rfl⟩, hc W (lx_kb hW) 0 n rfl⟩
  have DG := hide (fun W => Bank.digest_any d.b #[.int .i64 b0, .int .i64 b1, .int .i64 b2, .int .i64 b3, .int .i64 b4, .int .i64 b5, .int .i64 b6, .int .i64 b7] (n : Int) W (by rw [hbs]; rfl) h.len)
  have hv := digV_rng d.b (n : Int)
  have NU := hide (fun W (hW : Kb w W) => number_any (digV d.b (n : Int)) (errV 98 (digE d.b (n : Int))) W hv.1 hv.2 (hh.kb h hW))
  have HA : Hid (0 ≤ digE d.b (n : Int) ∧ digE d.b (n : Int) ≤ 9 ∧ doL d kwDigest [] [n] = (if digE d.b (n : Int) = 0 then ({ data := (digs (digV d.b (n : Int))).toArray } : ByteArray).data.toList else errN (digE d.b (n : Int)), d)) := by
    have hE : doL d kwDigest [] [n] = (if n ≤ 255 then (digs (digV d.b (n : Int)), d) else (errN 1, d)) := rfl
    rw [hE]
    by_cases hq : n ≤ 255
    · have e0 := digE_ok h.ok (isMask_iff.2 ⟨by omega, by omega⟩ : isMask (n : Int) = true)
      exact ⟨by omega, by omega, by rw [if_pos hq, if_pos e0]⟩
    · have e1 := digE_bad (xs := d.b) (m := (n : Int)) (fun hb => by have := isMask_iff.1 hb.2; omega)
      exact ⟨by omega, by omega, by rw [if_neg hq, if_neg (by omega), e1]⟩
  have K0 := kb_refl w
  obtain ⟨⟨c0, c1, c2, c3, c4, c5, c6, c7⟩, c9⟩ := CE.out w K0
  generalize digV d.b (n : Int) = dv at *
  generalize digE d.b (n : Int) = de at *
  clear h hh hn hc hv hp hbs
  go_enter Tryz.func47, Tryz.ntmps47
  go_wp2_with (fail)
  go_region_held3 (fun W => (W.cell? ⟨g, 1, none⟩ = some (.int .i64 b0) ∧ W.cell? ⟨g, 2, none⟩ = some (.int .i64 b1) ∧ W.cell? ⟨g, 3, none⟩ = some (.int .i64 b2) ∧ W.cell? ⟨g, 4, none⟩ = some (.int .i64 b3) ∧ W.cell? ⟨g, 5, none⟩ = some (.int .i64 b4) ∧ W.cell? ⟨g, 6, none⟩ = some (.int .i64 b5) ∧ W.cell? ⟨g, 7, none⟩ = some (.int .i64 b6) ∧ W.cell? ⟨g, 8, none⟩ = some (.int .i64 b7)) ∧ W.cell? ⟨b, off, none⟩ = some (.int .i64 n))
    (exact CE.out _ (by with_reducible repeat (first | assumption | apply kb_drew)))
    (first | (go_at_call 59; refine (DG.out _).mono ?_; rintro e w5 ⟨rfl, hb5⟩; have K5 := kb_below (w := w) (by with_reducible repeat (first | assumption | apply kb_drew)) hb5; clear hb5; obtain ⟨⟨e0, e1, e2, e3, e4, e5, e6, e7⟩, e9⟩ := CE.out _ K5) | (go_at_call 58; refine (NU.out _ (by with_reducible repeat (first | assumption | apply kb_drew))).mono ?_; rintro e w6 ⟨rfl, hb6⟩; have K6 := kb_below (w := w) (by with_reducible repeat (first | assumption | apply kb_drew)) hb6; clear hb6; obtain ⟨⟨f0, f1, f2, f3, f4, f5, f6, f7⟩, f9⟩ := CE.out _ K6))
  go_wp2
  go_ret2
  exact done_same HD.out (show Kb w _ from (by with_reducible repeat (first | assumption | apply kb_drew))) HA.out.1 HA.out.2.1 rfl HA.out.2.2
set_option maxRecDepth 100000 in
set_option maxHeartbeats 4000000 in
theorem do_measure (w : World) (B g mb gc : Nat) (SC : Nat → Prop) (d : Dk) (p0 : ByteArray) (hp : p0.data.toList = kwMeasure) (h : Dsk w B g mb gc SC d) (hh : HasF w B) (a : Option Addr) (cap : Nat) (nv : Value) (nm : ByteArray) (hm : NameAt w g SC nv nm) (hz : nm.size ≤ 3000) :
    Calls Tryz.prog 47 #[.pointer (some ⟨g, 0, none⟩), .string p0, nv, .slice a 0 cap] w (Done w B g mb gc SC (doL d kwMeasure nm.data.toList [])) := by
  have qExtend : (p0.toList == [101, 120, 116, 101, 110, 100]) = false := tx_no (by rw [hp]; decide)
  have qDigest : (p0.toList == [100, 105, 103, 101, 115, 116]) = false := tx_no (by rw [hp]; decide)
  have qMeasure : (p0.toList == [109, 101, 97, 115, 117, 114, 101]) = true := tx_yes (by rw [hp]; rfl)
  have HD := hide h
  obtain ⟨b, off, c, rfl, hc⟩ := hm
  have c0 := hc w (lx_refl w g SC)
  have hv : 0 ≤ ofV nm ∧ ofV nm < 1000003 := by
    unfold ofV
    split
    · omega
    · exact ofFrom_range 1 _ (by omega) (by omega)
  have MO := hide (fun W => Measure.of_any nm W (by omega))
  have NU := hide (fun W (hW : Kb w W) => number_any (ofV nm) (errV 98 (ofC nm)) W hv.1 hv.2 (hh.kb h hW))
  have HA : Hid (0 ≤ ofC nm ∧ ofC nm ≤ 9 ∧ doL d kwMeasure nm.data.toList [] = (if ofC nm = 0 then ({ data := (digs (ofV nm)).toArray } : ByteArray).data.toList else errN (ofC nm), d)) := by
    have hE : doL d kwMeasure nm.data.toList [] = (if 24 < nm.data.toList.length then (errN 4, d) else (digs (ofFrom 1 nm.data.toList), d)) := rfl
    have hl := len_size nm
    rw [hE]
    unfold ofC ofV
    by_cases hq : 24 < nm.size
    · rw [if_pos hq, if_pos (by omega), if_neg (by omega)]
      exact ⟨by omega, by omega, rfl⟩
    · rw [if_neg hq, if_neg (by omega), if_pos rfl, if_neg hq]
      exact ⟨by omega, by omega, rfl⟩
  generalize ofV nm = dv at *
  generalize ofC nm = de at *
  clear h hh hc hv hp hz
  go_enter Tryz.func47, Tryz.ntmps47
  go_wp2_with (fail)
  refine (MO.out _).mono ?_
  rintro e w5 ⟨rfl, rfl⟩
  go_wp2_with (fail)
  refine (NU.out _ (kb_refl _)).mono ?_
  rintro e w6 ⟨rfl, hb6⟩
  go_wp2
  go_ret2
  exact done_same HD.out hb6 HA.out.1 HA.out.2.1 rfl HA.out.2.2
set_option maxRecDepth 100000 in
set_option maxHeartbeats 4000000 in
theorem do_public (w : World) (B g mb gc : Nat) (SC : Nat → Prop) (d : Dk) (p0 : ByteArray) (hp : p0.data.toList = kwPublic) (h : Dsk w B g mb gc SC d) (hh : HasF w B) (a : Option Addr) (cap : Nat) (nv : Value) (n : Nat) (hn : NumsAt w g SC a [n]) :
    Calls Tryz.prog 47 #[.pointer (some ⟨g, 0, none⟩), .string p0, nv, .slice a 1 cap] w (Done w B g mb gc SC (doL d kwPublic [] [n])) := by
  have qExtend : (p0.toList == [101, 120, 116, 101, 110, 100]) = false := tx_no (by rw [hp]; decide)
  have qDigest : (p0.toList == [100, 105, 103, 101, 115, 116]) = false := tx_no (by rw [hp]; decide)
  have qMeasure : (p0.toList == [109, 101, 97, 115, 117, 114, 101]) = false := tx_no (by rw [hp]; decide)
  have qRaise : (p0.toList == [114, 97, 105, 115, 101]) = false := tx_no (by rw [hp]; decide)
  have qMay : (p0.toList == [109, 97, 121]) = false := tx_no (by rw [hp]; decide)
  have qPublic : (p0.toList == [112, 117, 98, 108, 105, 99]) = true := tx_yes (by rw [hp]; rfl)
  have HD := hide h
  obtain ⟨b, off, rfl, hc⟩ := nums_some hn
  have c0 : w.cell? ⟨b, off, none⟩ = some (.int .i64 n) := hc w (lx_refl w g SC) 0 n rfl
  have hv : 0 ≤ pubV (n : Int) ∧ pubV (n : Int) < 1000003 := by
    unfold pubV
    split
    · exact pwZ_rng _ _
    · omega
  have PU := hide (fun W => Key.public_any (n : Int) W)
  have NU := hide (fun W (hW : Kb w W) => number_any (pubV (n : Int)) (errV 98 (pubC (n : Int))) W hv.1 hv.2 (hh.kb h hW))
  have HA : Hid (0 ≤ pubC (n : Int) ∧ pubC (n : Int) ≤ 9 ∧ doL d kwPublic [] [n] = (if pubC (n : Int) = 0 then ({ data := (digs (pubV (n : Int))).toArray } : ByteArray).data.toList else errN (pubC (n : Int)), d)) := by
    have hE : doL d kwPublic [] [n] = (if secB (n : Int) = true then (digs (pwZ 64 (n : Int)), d) else (errN 1, d)) := rfl
    rw [hE]
    cases hq : secB (n : Int) with
    | true => rw [pubC_ok hq, pubV_ok hq, if_pos rfl, if_pos rfl]; exact ⟨by omega, by omega, rfl⟩
    | false => rw [pubC_no hq, if_neg Bool.false_ne_true, if_neg (by omega)]; exact ⟨by omega, by omega, rfl⟩
  generalize pubV (n : Int) = dv at *
  generalize pubC (n : Int) = de at *
  clear h hh hc hv hp hn
  go_enter Tryz.func47, Tryz.ntmps47
  go_wp2_with (fail)
  refine (PU.out _).mono ?_
  rintro e w5 ⟨rfl, rfl⟩
  go_wp2_with (fail)
  refine (NU.out _ (kb_refl _)).mono ?_
  rintro e w6 ⟨rfl, hb6⟩
  go_wp2
  go_ret2
  exact done_same HD.out hb6 HA.out.1 HA.out.2.1 rfl HA.out.2.2
set_option maxRecDepth 100000 in
set_option maxHeartbeats 4000000 in
theorem do_may (w : World) (B g mb gc : Nat) (SC : Nat → Prop) (d : Dk) (p0 : ByteArray) (hp : p0.data.toList = kwMay) (h : Dsk w B g mb gc SC d) (hh : HasF w B) (a : Option Addr) (cap : Nat) (nv : Value) (nm : ByteArray) (n : Nat) (hm : NameAt w g SC nv nm) (hz : nm.size ≤ 3000) (hn : NumsAt w g SC a [n]) :
    Calls Tryz.prog 47 #[.pointer (some ⟨g, 0, none⟩), .string p0, nv, .slice a 1 cap] w (Done w B g mb gc SC (doL d kwMay nm.data.toList [n])) := by
  have qExtend : (p0.toList == [101, 120, 116, 101, 110, 100]) = false := tx_no (by rw [hp]; decide)
  have qDigest : (p0.toList == [100, 105, 103, 101, 115, 116]) = false := tx_no (by rw [hp]; decide)
  have qMeasure : (p0.toList == [109, 101, 97, 115, 117, 114, 101]) = false := tx_no (by rw [hp]; decide)
  have qRaise : (p0.toList == [114, 97, 105, 115, 101]) = false := tx_no (by rw [hp]; decide)
  have qMay : (p0.toList == [109, 97, 121]) = true := tx_yes (by rw [hp]; rfl)
  have HD := hide h
  obtain ⟨b, off, rfl, hc⟩ := nums_some hn
  obtain ⟨bm, om, cm, rfl, hcm⟩ := hm
  have CE : Hid (∀ W, Kb w W → W.cell? ⟨g, 0, none⟩ = some (.pointer (some ⟨gc, 0, none⟩)) ∧ W.cell? ⟨bm, om, none⟩ = some (.string nm) ∧ W.cell? ⟨b, off, none⟩ = some (.int .i64 n)) := fun W hW => ⟨(h.below hW).c0, hcm W (lx_kb hW), hc W (lx_kb hW) 0 n rfl⟩
  have MA := hide (fun W (hW : Kb w W) => Count.mayLaw _ SC d.f d.k nm (n : Int) W B (h.below hW).cnt (by omega))
  have HA : Hid (0 ≤ mayE d.f nm (n : Int) ∧ mayE d.f nm (n : Int) ≤ 9 ∧ doL d kwMay nm.data.toList [n] = (if mayE d.f nm (n : Int) = 0 then ({ data := #[111, 107] } : ByteArray).data.toList else errN (mayE d.f nm (n : Int)), d)) := by
    have hE : doL d kwMay nm.data.toList [n] = (if mayE d.f nm (n : Int) = 0 then (ansOk, d) else (errN (mayE d.f nm (n : Int)), d)) := rfl
    rw [hE]
    refine ⟨?_, ?_, ?_⟩
    · unfold mayE; repeat (first | split | omega)
    · unfold mayE; repeat (first | split | omega)
    · split <;> rfl
  have K0 := kb_refl w
  obtain ⟨c0, c1, c2⟩ := CE.out w K0
  generalize mayE d.f nm (n : Int) = de at *
  clear h hh hc hcm hp hz hn
  go_enter Tryz.func47, Tryz.ntmps47
  go_wp2_with (fail)
  go_region_held3 (fun W => W.cell? ⟨g, 0, none⟩ = some (.pointer (some ⟨gc, 0, none⟩)) ∧ W.cell? ⟨bm, om, none⟩ = some (.string nm) ∧ W.cell? ⟨b, off, none⟩ = some (.int .i64 n))
    (exact CE.out _ (by with_reducible repeat (first | assumption | apply kb_drew)))
    ((go_at_call 63; refine (MA.out _ (by with_reducible repeat (first | assumption | apply kb_drew))).mono ?_; rintro e w5 ⟨rfl, hb5⟩; have K5 := kb_below (w := w) (by with_reducible repeat (first | assumption | apply kb_drew)) hb5; clear hb5; obtain ⟨e0, e1, e2⟩ := CE.out _ K5))
  all_goals
    go_wp2
    go_ret2
    exact done_same HD.out (show Kb w _ from (by with_reducible repeat (first | assumption | apply kb_drew))) HA.out.1 HA.out.2.1 rfl HA.out.2.2
end Go.Proofs.YtjkcplpmhjnahaaGreatDoor.Run
