/-
  What package count's New, Raise, Least and May do to its object over this translation.
-/
import Derived.Test.YtojdaifnljghkabGreatDoorQCntIs
import Derived.Test.YtojdaifnljghkabGreatDoorPack1
import Derived.Deep.RegionHeld3
namespace Go.Proofs.YtojdaifnljghkabGreatDoor.Count
open Go.ChangeShapes Go.WideShapes Go.ChangeAt Go.RowKit
open Go.Proofs.YtojdaifnljghkabGreatDoor.M Go.Proofs.YtojdaifnljghkabGreatDoor.Image
set_option linter.unusedVariables false

theorem nameB_no0 {s : ByteArray} (h : s.size = 0) : nameB s = false := by
  unfold nameB
  rw [decide_eq_false (by omega), Bool.and_false]
theorem nameB_no8 {s : ByteArray} (h : 8 < s.size) : nameB s = false := by
  unfold nameB
  rw [decide_eq_false (by omega), Bool.and_false]
theorem nameB_let {s : ByteArray} (h0 : ¬ s.size = 0) (h : ¬ 8 < s.size) : nameB s = letS s := by
  unfold nameB
  rw [decide_eq_true (by omega), Bool.and_true]
set_option maxHeartbeats 2000000 in
theorem name_any (s : ByteArray) (w : World) (hl : s.size ≤ 140737488351232) : Calls Tryz.prog 140 #[.string s] w fun e w' => e = .returned (.bool (nameB s)) ∧ Below w.heap.size w w' := by
  by_cases h0 : s.size = 0
  · have E := hide (nameB_no0 h0)
    have h1 := empty_is h0
    clear h0
    go_enter Tryz.func140, Tryz.ntmps140
    go_wp2
    go_ret
    exact ⟨by rw [E.out]; rfl, Below.refl _ _⟩
  · have h1 := empty_not h0
    by_cases h8 : 8 < s.size
    · have E := hide (nameB_no8 h8)
      have h8' : ¬ (s.size : Int) ≤ 8 := by omega
      clear h0 h8
      go_enter Tryz.func140, Tryz.ntmps140
      go_wp2
      go_ret
      exact ⟨by rw [E.out]; rfl, Below.refl _ _⟩
    · have E := hide (nameB_let h0 h8)
      have h8' : (s.size : Int) ≤ 8 := by omega
      clear h0 h8
      go_enter Tryz.func140, Tryz.ntmps140
      go_wp2_with (go_at_call 114; refine (letters_any s _).mono ?_; rintro e w1 ⟨rfl, hb1⟩)
      go_ret
      exact ⟨by rw [E.out]; rfl, hb1⟩

set_option maxHeartbeats 2000000 in
theorem new_any (w : World) (B : Nat) (hB : B ≤ w.heap.size) : Calls Tryz.prog 47 #[] w fun e w' => ∃ p S, e = .returned p ∧ Cnt w' B p S (fun _ => 0) 0 ∧ (∀ b, S b → w.heap.size ≤ b) ∧ Below w.heap.size w w' := by
  have HN := hide (cis_new w B hB)
  have HB := hide (below_on (below_new w (.map #[] 0)) (below_new _ (.cells #[.map (some w.heap.size)] 153)))
  have mk := run_makeMap (P := Tryz.prog) 151 w
  clear hB
  go_enter Tryz.func47, Tryz.ntmps47
  go_wp2
  go_ret
  exact ⟨_, foot (w.heap.size + 1) w.heap.size, rfl, ⟨w.heap.size + 1, w.heap.size, rfl, rfl, HN.out⟩, fun b hb => by rcases hb with rfl | rfl <;> omega, HB.out⟩
theorem core : Core Cnt := ⟨fun h => h.has, fun h => h.only, new_any⟩

set_option maxHeartbeats 2000000 in
theorem leastLaw : LeastLaw Cnt := by
  rintro p S f k nm w B ⟨g, m, rfl, rfl, h⟩ hl
  have HC := hide h
  clear h
  cases hn : nameB nm with
  | false =>
    obtain ⟨e1, e2⟩ := leaE_no (f := f) hn
    rw [e1, e2]
    clear e1 e2
    have HN := hide hn
    clear hn
    go_enter Tryz.func123, Tryz.ntmps123
    go_wp2_with (go_at_call 140; refine (name_any nm _ (by omega)).mono ?_; rintro e w1 ⟨rfl, hb1⟩; rw [HN.out])
    go_ret2
    exact ⟨rfl, hb1⟩
  | true =>
    obtain ⟨e1, e2⟩ := leaE_ok (f := f) hn
    rw [e1, e2]
    clear e1 e2
    have HN := hide hn
    clear hn
    go_enter Tryz.func123, Tryz.ntmps123
    go_wp2_with (go_at_call 140; refine (name_any nm _ (by omega)).mono ?_; rintro e w1 ⟨rfl, hb1⟩; rw [HN.out]; have c1 := (HC.out.below hb1).cell; have l1 := (HC.out.below hb1).look (nm := nm) (by unfold maxLen; omega))
    go_ret2
    exact ⟨rfl, hb1⟩

set_option maxHeartbeats 2000000 in
theorem mayLaw : MayLaw Cnt := by
  intro p S f k nm v w B h hl
  have HL := hide (leastLaw p S f k nm w B h hl)
  clear h
  cases hn : nameB nm with
  | false =>
    have E : Hid (mayE f nm v = 3) := by unfold mayE; rw [hn]; rfl
    obtain ⟨e1, e2⟩ := leaE_no (f := f) hn
    rw [e1, e2] at HL
    clear e1 e2 hn
    go_enter Tryz.func125, Tryz.ntmps125
    go_wp2_with (go_at_call 123; refine HL.out.mono ?_; rintro e w1 ⟨rfl, hb1⟩; rw [show errV 96 3 = .iface 96 (.int .i64 3) from rfl])
    go_ret
    exact ⟨by rw [E.out]; rfl, hb1⟩
  | true =>
    obtain ⟨e1, e2⟩ := leaE_ok (f := f) hn
    rw [e1, e2] at HL
    clear e1 e2
    cases hv : verB v with
    | false =>
      have E : Hid (mayE f nm v = 1) := by
        have := verB_no hv
        unfold mayE
        rw [if_pos hn, if_neg (by omega)]
        exact rfl
      have HV := hide hv
      clear hn hv
      generalize f nm = z at *
      go_enter Tryz.func125, Tryz.ntmps125
      go_wp2_with (first | (go_at_call 123; refine HL.out.mono ?_; rintro e w1 ⟨rfl, hb1⟩; rw [errV_zero]) | (go_at_call 115; refine (version_any v _).mono ?_; rintro e w2 ⟨rfl, rfl⟩; rw [HV.out]))
      go_ret
      exact ⟨by rw [E.out]; rfl, hb1⟩
    | true =>
      have HV := hide hv
      have h1 := verB_yes hv
      by_cases hz : v < f nm
      · have E : Hid (mayE f nm v = 9) := by
          unfold mayE
          rw [if_pos hn, if_pos h1, if_pos hz]
          exact rfl
        clear hn hv h1
        generalize f nm = z at *
        go_enter Tryz.func125, Tryz.ntmps125
        go_wp2_with (first | (go_at_call 123; refine HL.out.mono ?_; rintro e w1 ⟨rfl, hb1⟩; rw [errV_zero]) | (go_at_call 115; refine (version_any v _).mono ?_; rintro e w2 ⟨rfl, rfl⟩; rw [HV.out]))
        go_ret
        exact ⟨by rw [E.out]; rfl, hb1⟩
      · have E : Hid (mayE f nm v = 0) := by
          unfold mayE
          rw [if_pos hn, if_pos h1, if_neg hz]
          exact rfl
        clear hn hv h1
        generalize f nm = z at *
        go_enter Tryz.func125, Tryz.ntmps125
        go_wp2_with (first | (go_at_call 123; refine HL.out.mono ?_; rintro e w1 ⟨rfl, hb1⟩; rw [errV_zero]) | (go_at_call 115; refine (version_any v _).mono ?_; rintro e w2 ⟨rfl, rfl⟩; rw [HV.out]))
        go_ret
        exact ⟨by rw [E.out]; rfl, hb1⟩

/-- While the region of the store goes on: but for the object all is as it was, and the object is as it was. -/
def Ex (w : World) (B g m : Nat) (f : ByteArray → Int) (k : Nat) (W : World) : Prop := Only (foot g m) w W ∧ CIs W B g m f k
def Wk (B g m : Nat) (nm : ByteArray) (W : World) : Prop := ∃ f k, CIs W B g m f k ∧ ¬ (f nm = 0 ∧ 12 ≤ k)
theorem ex_drew {w W : World} {B g m : Nat} {f : ByteArray → Int} {k : Nat} (h : Ex w B g m f k W) : Ex w B g m f k W.drew := ⟨h.1, h.2⟩
theorem wk_drew {W : World} {B g m : Nat} {nm : ByteArray} (h : Wk B g m nm W) : Wk B g m nm W.drew := h
theorem ex_below {w W W' : World} {B g m : Nat} {f : ByteArray → Int} {k : Nat} (h : Ex w B g m f k W) (hb : Below W.heap.size W W') : Ex w B g m f k W' := ⟨h.1.after hb, h.2.below hb⟩
theorem raise_false {f : ByteArray → Int} {k : Nat} {nm : ByteArray} {v : Int} (h : raiB f k nm v = false) : raiF f k nm v = f ∧ raiK f k nm v = k :=
  ⟨raiF_no (by rw [h]; exact Bool.false_ne_true), raiK_no (by rw [h]; exact Bool.false_ne_true)⟩
/-- Where nothing changes. -/
theorem raise_same {p : Value} {S : Nat → Prop} {f : ByteArray → Int} {k : Nat} {nm : ByteArray} {v : Int} {w w' : World} {B : Nat} (h : Cnt w B p S f k) (hb : Below w.heap.size w w') (hr : raiB f k nm v = false) :
    Cnt w' B p S (raiF f k nm v) (raiK f k nm v) ∧ Only S w w' := by
  rw [(raise_false hr).1, (raise_false hr).2]
  exact ⟨core.below h hb, Only.of_below hb⟩
theorem would_end {f : ByteArray → Int} {k : Nat} {nm : ByteArray} {v : Int} {w w' : World} {e : Ending} {b : Bool} {err : Int} (hb : Below w.heap.size w w') (hr : raiB f k nm v = b) (he : raiE f k nm v = err) (hx : e = .returned (.tuple #[.bool b, errV 96 err])) :
    e = .returned (.tuple #[.bool (raiB f k nm v), errV 96 (raiE f k nm v)]) ∧ Below w.heap.size w w' := ⟨by rw [hx, hr, he], hb⟩
theorem raise_done {w W : World} {B g m : Nat} {f : ByteArray → Int} {k : Nat} {nm : ByteArray} {v : Int} {put : World → World} {e : Ending} (hw : Ex w B g m f k W) (hr : raiB f k nm v = true) (hx : e = .returned (.tuple #[.bool true, .nilIface]))
    (hp : Only (foot g m) W (put W) ∧ CIs (put W) B g m (updF f nm v) (if f nm = 0 then k + 1 else k)) :
    e = .returned (.tuple #[.bool true, .nilIface]) ∧ Cnt (put W) B (.pointer (some ⟨g, 0, none⟩)) (foot g m) (raiF f k nm v) (raiK f k nm v) ∧ Only (foot g m) w (put W) := by
  refine ⟨hx, ?_, hw.1.trans hp.1 (fun b _ hb => hb)⟩
  rw [raiF_yes hr, show raiK f k nm v = (if f nm = 0 then k + 1 else k) from if_pos hr]
  exact ⟨g, m, rfl, rfl, hp.2⟩
set_option maxHeartbeats 4000000 in
/-- What Would tells. -/
theorem would_any (p : Value) (S : Nat → Prop) (f : ByteArray → Int) (k : Nat) (nm : ByteArray) (v : Int) (w : World) (B : Nat) (h : Cnt w B p S f k) (hl : nm.size ≤ 140737488351232) :
    Calls Tryz.prog 94 #[p, .string nm, .int .i64 v] w fun e w' => e = .returned (.tuple #[.bool (raiB f k nm v), errV 96 (raiE f k nm v)]) ∧ Below w.heap.size w w' := by
  have HL := hide (leastLaw p S f k nm w B h hl)
  have HC := hide h
  cases hn : nameB nm with
  | false =>
    have R := hide (raiE_name (f := f) (k := k) (v := v) hn)
    obtain ⟨e1, e2⟩ := leaE_no (f := f) hn
    rw [e1, e2] at HL
    clear e1 e2 hn h
    go_enter Tryz.func94, Tryz.ntmps94
    go_wp2_with (go_at_call 123; refine HL.out.mono ?_; rintro e w1 ⟨rfl, hb1⟩; rw [show errV 96 3 = .iface 96 (.int .i64 3) from rfl])
    go_ret2
    exact would_end hb1 R.out.2 R.out.1 rfl
  | true =>
    obtain ⟨e1, e2⟩ := leaE_ok (f := f) hn
    rw [e1, e2] at HL
    clear e1 e2
    have hf0 : 0 ≤ f nm := by
      obtain ⟨g, m, _, _, hc⟩ := h
      exact hc.2.2.2.2.1 nm
    by_cases hv0 : v = 0
    · subst hv0
      have RB : Hid (raiB f k nm 0 = false) := by
        cases hb : raiB f k nm 0 with
        | false => exact rfl
        | true => exact absurd (raiB_iff.1 hb).2.2.1 (by omega)
      have RE : Hid (raiE f k nm 0 = 0) := by
        unfold raiE
        rw [if_pos hn, if_pos (by omega), if_pos hf0]
        exact rfl
      clear hn h
      generalize f nm = z at HL hf0
      go_enter Tryz.func94, Tryz.ntmps94
      go_wp2_with (go_at_call 123; refine HL.out.mono ?_; rintro e w1 ⟨rfl, hb1⟩; rw [errV_zero])
      go_ret2
      exact would_end hb1 RB.out RE.out rfl
    · cases hv : verB v with
      | false =>
        have h1 := verB_no hv
        have RB : Hid (raiB f k nm v = false) := by
          cases hb : raiB f k nm v with
          | false => exact rfl
          | true => exact absurd (raiB_iff.1 hb).2.1 (by omega)
        have RE : Hid (raiE f k nm v = 1) := by
          unfold raiE
          rw [if_pos hn, if_neg (by omega)]
          exact rfl
        have HV := hide hv
        clear hn h hv h1 hf0
        generalize f nm = z at HL
        go_enter Tryz.func94, Tryz.ntmps94
        go_wp2_with (first | (go_at_call 123; refine HL.out.mono ?_; rintro e w1 ⟨rfl, hb1⟩; rw [errV_zero]) | (go_at_call 115; refine (version_any v _).mono ?_; rintro e w2 ⟨rfl, rfl⟩; rw [HV.out]))
        go_ret2
        exact would_end hb1 RB.out RE.out rfl
      | true =>
        obtain ⟨h1, h2⟩ := verB_yes hv
        have HV := hide hv
        clear hv
        by_cases hle : v ≤ f nm
        · have RB : Hid (raiB f k nm v = false) := by
            cases hb : raiB f k nm v with
            | false => exact rfl
            | true => exact absurd (raiB_iff.1 hb).2.2.1 (by omega)
          have RE : Hid (raiE f k nm v = 0) := by
            unfold raiE
            rw [if_pos hn, if_pos (by omega), if_pos hle]
            exact rfl
          clear hn h h1 h2 hf0
          generalize f nm = z at HL hle
          go_enter Tryz.func94, Tryz.ntmps94
          go_wp2_with (first | (go_at_call 123; refine HL.out.mono ?_; rintro e w1 ⟨rfl, hb1⟩; rw [errV_zero]) | (go_at_call 115; refine (version_any v _).mono ?_; rintro e w2 ⟨rfl, rfl⟩; rw [HV.out]))
          go_ret2
          exact would_end hb1 RB.out RE.out rfl
        · by_cases hfull : f nm = 0 ∧ 12 ≤ k
          · have RB : Hid (raiB f k nm v = false) := by
              cases hb : raiB f k nm v with
              | false => exact rfl
              | true => exact absurd hfull (raiB_iff.1 hb).2.2.2
            have RE : Hid (raiE f k nm v = 4) := by
              unfold raiE
              rw [if_pos hn, if_pos (by omega), if_neg hle, if_pos hfull]
              exact rfl
            obtain ⟨hz, hk⟩ := hfull
            have hk' : (12 : Int) ≤ k := by omega
            rw [hz] at HL hle
            obtain ⟨g, m, rfl, rfl, hc⟩ := h
            have HI := hide hc
            clear hn h1 h2 hf0 hz hk hc
            go_enter Tryz.func94, Tryz.ntmps94
            go_wp2_with (first | (go_at_call 123; refine HL.out.mono ?_; rintro e w1 ⟨rfl, hb1⟩; rw [errV_zero]; have c1 := (HI.out.below hb1).cell; have l1 := (HI.out.below hb1).len) | (go_at_call 115; refine (version_any v _).mono ?_; rintro e w2 ⟨rfl, rfl⟩; rw [HV.out]))
            go_ret2
            exact would_end hb1 RB.out RE.out rfl
          · have RB : Hid (raiB f k nm v = true) := raiB_iff.2 ⟨hn, ⟨by omega, h2⟩, by omega, hfull⟩
            have RE := hide (raiE_rise RB.out)
            obtain ⟨g, m, rfl, rfl, hc⟩ := h
            have HI := hide hc
            have hf0' := hf0
            clear hn hc
            by_cases hz : f nm = 0
            · have hk' : ¬ (12 : Int) ≤ k := by
                intro hk
                exact hfull ⟨hz, by omega⟩
              rw [hz] at HL hle
              clear hz hfull h1 h2 hf0 hf0'
              go_enter Tryz.func94, Tryz.ntmps94
              go_wp2_with (first | (go_at_call 123; refine HL.out.mono ?_; rintro e w1 ⟨rfl, hb1⟩; rw [errV_zero]; have c1 := (HI.out.below hb1).cell; have l1 := (HI.out.below hb1).len) | (go_at_call 115; refine (version_any v _).mono ?_; rintro e w2 ⟨rfl, rfl⟩; rw [HV.out]))
              go_ret2
              exact would_end hb1 RB.out RE.out rfl
            · generalize hq : f nm = z at HL hle hz
              clear hq hfull h1 h2 hf0 hf0'
              go_enter Tryz.func94, Tryz.ntmps94
              go_wp2_with (first | (go_at_call 123; refine HL.out.mono ?_; rintro e w1 ⟨rfl, hb1⟩; rw [errV_zero]; have c1 := (HI.out.below hb1).cell; have l1 := (HI.out.below hb1).len) | (go_at_call 115; refine (version_any v _).mono ?_; rintro e w2 ⟨rfl, rfl⟩; rw [HV.out]))
              go_ret2
              exact would_end hb1 RB.out RE.out rfl
set_option maxHeartbeats 4000000 in
/-- What Raise does: its blocks stay the same. -/
theorem raiseStay (p : Value) (S : Nat → Prop) (f : ByteArray → Int) (k : Nat) (nm : ByteArray) (v : Int) (w : World) (B : Nat) (h : Cnt w B p S f k) (hl : nm.size ≤ 140737488351232) :
    Calls Tryz.prog 55 #[p, .string nm, .int .i64 v] w fun e w' => e = .returned (.tuple #[.bool (raiB f k nm v), errV 96 (raiE f k nm v)]) ∧ Cnt w' B p S (raiF f k nm v) (raiK f k nm v) ∧ Only S w w' := by
  have HL := hide (would_any p S f k nm v w B h hl)
  have HC := hide h
  cases hr : raiB f k nm v with
  | false =>
    have HR := hide hr
    rw [hr] at HL
    clear hr h
    obtain ⟨ev, hev⟩ : ∃ ev, errV 96 (raiE f k nm v) = ev := ⟨_, rfl⟩
    have HEV := hide hev
    rw [hev] at HL
    rw [hev]
    clear hev
    go_enter Tryz.func55, Tryz.ntmps55
    go_wp2_with (go_at_call 94; refine HL.out.mono ?_; rintro e w1 ⟨rfl, hb1⟩)
    go_ret2
    obtain ⟨h1, h2⟩ := raise_same HC.out hb1 HR.out
    exact ⟨rfl, h1, h2⟩
  | true =>
    obtain ⟨hn, ⟨hv0, h2⟩, hlt, hfull⟩ := raiB_iff.1 hr
    have RB := hide hr
    rw [hr, raiE_rise hr, errV_zero] at HL
    rw [raiE_rise hr, errV_zero]
    obtain ⟨g, m, rfl, rfl, hc⟩ := h
    have h1 : 1 ≤ v := by
      have := hc.2.2.2.2.1 nm
      omega
    have CL := hide (fun W => clone_any nm W hl)
    obtain ⟨put, hput⟩ := puts B g m nm v (by unfold maxLen; omega) h1 h2
    have HX : Hid (∀ W, Ex w B g m f k W → Only (foot g m) W (put W) ∧ CIs (put W) B g m (updF f nm v) (if f nm = 0 then k + 1 else k)) := fun W hW => ⟨(hput W f k hW.2).2.1, (hput W f k hW.2).2.2 hfull⟩
    have HS : Hid (∀ W, Wk B g m nm W → W.cell? ⟨g, 0, none⟩ = some (.map (some m)) ∧ (Instr.mapUpdate 151 (.map (some m)) (.string nm) (.int .i64 v)).run Tryz.prog W = .ok () (put W)) := by
      rintro W ⟨f', k', hW, _⟩
      exact ⟨hW.cell, (hput W f' k' hW).1⟩
    have HP : Hid (∀ W, Wk B g m nm W → Wk B g m nm (put W)) := by
      rintro W ⟨f', k', hW, hk⟩
      exact ⟨_, _, (hput W f' k' hW).2.2 hk, by rw [updF_same]; omega⟩
    have HE : Hid (Ex w B g m f k w) := ⟨Only.refl _ _, hc⟩
    have HF := hide hfull
    clear hput hc h1 h2 hn hfull hr hv0 hlt
    go_enter Tryz.func55, Tryz.ntmps55
    go_wp2_with (go_at_call 94; refine HL.out.mono ?_; rintro e w1 ⟨rfl, hb1⟩)
    have hE1 := ex_below HE.out hb1
    have hW1 : Wk B g m nm _ := ⟨_, _, hE1.2, HF.out⟩
    clear HE hb1
    go_region_held3 (fun W => W.cell? ⟨g, 0, none⟩ = some (.map (some m)) ∧ (Instr.mapUpdate 151 (.map (some m)) (.string nm) (.int .i64 v)).run Tryz.prog W = .ok () (put W))
      (exact HS.out _ (by repeat (first | assumption | with_reducible apply HP.out | with_reducible apply wk_drew)))
      (first | (go_at_call 92; refine (CL.out _).mono ?_; rintro e w5 ⟨rfl, hb5⟩; have hE5 : Ex w B g m f k w5 := ex_below (by repeat (first | assumption | with_reducible apply ex_drew)) hb5; have hW5 : Wk B g m nm w5 := ⟨_, _, hE5.2, HF.out⟩; clear hb5; obtain ⟨c5, r5⟩ := HS.out w5 hW5))
    all_goals
      go_wp2
      go_ret2
      exact raise_done (by repeat (first | assumption | with_reducible apply ex_drew)) RB.out rfl (HX.out _ (by repeat (first | assumption | with_reducible apply ex_drew)))
theorem raiseLaw : RaiseLaw Cnt := by
  intro p S f k nm v w B h hl hB
  refine (raiseStay p S f k nm v w B h hl).mono ?_
  rintro e w' ⟨rfl, h1, h2⟩
  exact ⟨S, rfl, h1, h2, fun b hb => Or.inl hb⟩
/-- All of it. -/
theorem laws : Laws Cnt := { core with raise := raiseLaw, least := leastLaw }
end Go.Proofs.YtojdaifnljghkabGreatDoor.Count
