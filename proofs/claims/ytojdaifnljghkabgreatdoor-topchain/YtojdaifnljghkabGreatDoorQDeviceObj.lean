/-
  Contracts of package device's New, Start, Good, Tell and Runs over this translation: what each returns, what becomes of the device, and that all else stays as it was.
-/
import Derived.Test.YtojdaifnljghkabGreatDoorQDevicePart
import Derived.Test.YtojdaifnljghkabGreatDoorPack1
import Derived.Test.YtojdaifnljghkabGreatDoorPack2
import Derived.Deep.RegionHeld3
import Derived.Deep.DeepCutAuto
import Derived.Deep.CutBlock
namespace Go.Proofs.YtojdaifnljghkabGreatDoor.Device
open Go.ChangeShapes Go.WideShapes Go.ChangeAt Go.RowKit
open Go.Proofs.YtojdaifnljghkabGreatDoor.M
set_option linter.unusedVariables false

theorem eight_of {r : List Int} (h : r.length = 8) : ∃ a0 a1 a2 a3 a4 a5 a6 a7 : Int, bankC r = #[.int .i64 a0, .int .i64 a1, .int .i64 a2, .int .i64 a3, .int .i64 a4, .int .i64 a5, .int .i64 a6, .int .i64 a7] := by
  match r, h with
  | [a0, a1, a2, a3, a4, a5, a6, a7], _ => exact ⟨a0, a1, a2, a3, a4, a5, a6, a7, rfl⟩
theorem rep_one (nm cd : ByteArray) (v : Int) : extE noBank 0 (meaV nm v cd) = 0 ∧ extV noBank 0 (meaV nm v cd) = repV [(0, meaV nm v cd)] :=
  rep_ext (l := []) (e := (0, meaV nm v cd)) (evOk_iff.2 ⟨(show isReg 0 = true by decide), mea_is nm v cd⟩)
/-- What measured leaves. -/
def Meas (w : World) (nm : ByteArray) (v : Int) (cd : ByteArray) (m : Int) (e : Ending) (w' : World) : Prop :=
  ∃ r, e = .returned (.pointer (some ⟨r, 0, none⟩)) ∧ w.heap.size ≤ r ∧ Std w' r nm v cd m ∧ Below w.heap.size w w'

set_option maxRecDepth 20000 in
set_option maxHeartbeats 4000000 in
theorem measured_any (nm cd : ByteArray) (v : Int) (w : World) (hE : imgE nm v cd = 0) (hn : nm.size ≤ 140737488351232) (hcd : cd.size ≤ 140737488351232) (hh : Image.Has w) :
    Calls Tryz.prog 50 #[.agg #[.string nm, .int .i64 v, .string cd]] w (Meas w nm v cd (meaV nm v cd)) := by
  have ME := hide (fun (W : World) (h : Image.Has W) => Image.measure_any nm cd v W hn hcd h)
  have EX := hide (fun (W : World) => Bank.extend_any noBank #[.int .i64 0, .int .i64 0, .int .i64 0, .int .i64 0, .int .i64 0, .int .i64 0, .int .i64 0, .int .i64 0] 0 (meaV nm v cd) W rfl rfl)
  rw [hE, errV_zero] at ME
  rw [(rep_one nm cd v).1, (rep_one nm cd v).2, errV_zero] at EX
  unfold imgC at ME
  obtain ⟨z0, z1, z2, z3, z4, z5, z6, z7, hz⟩ := eight_of (repV_len [(0, meaV nm v cd)])
  rw [hz] at EX
  have HZ := hide hz
  have HOE : Hid ((#[.int .i64 z0, .int .i64 z1, .int .i64 z2, .int .i64 z3, .int .i64 z4, .int .i64 z5, .int .i64 z6, .int .i64 z7] : Array Value).all (·.oneCell') = true) := by rw [← hz]; exact Bank.bankC_one _
  have HSE : Hid ((#[.int .i64 z0, .int .i64 z1, .int .i64 z2, .int .i64 z3, .int .i64 z4, .int .i64 z5, .int .i64 z6, .int .i64 z7] : Array Value).size = 8) := rfl
  have hb0 := below_new w (.cells #[.string nm, .int .i64 v, .string cd] 23)
  have HB0 := hide hb0
  have HH := hide (hh.below hb0)
  have HG0 := hide (blk_new w (.cells #[.string nm, .int .i64 v, .string cd] 23))
  obtain ⟨c0, c1, c2⟩ := tri_cells HG0.out
  clear hE hn hcd hh hz hb0
  generalize meaV nm v cd = m at *
  go_enter Tryz.func50, Tryz.ntmps50
  go_wp2_with (fail)
  refine (ME.out _ HH.out).mono ?_
  rintro e w5 ⟨rfl, hb5⟩
  have HB5 := hide (below_on HB0.out hb5)
  have HG5 := hide (blk_below HG0.out hb5)
  clear hb5 HH ME HG0 HB0 c0 c1 c2
  go_wp2_with (fail)
  refine (EX.out _).mono ?_
  rintro e w6 ⟨rfl, hb6⟩
  have hq := below_on hb6 (below_new w6 (.cells #[.int .i64 z0, .int .i64 z1, .int .i64 z2, .int .i64 z3, .int .i64 z4, .int .i64 z5, .int .i64 z6, .int .i64 z7] 67))
  have HB7 := hide (below_on HB5.out hq)
  have HG7 := hide (blk_below HG5.out hq)
  have HL7 := hide (blk_new w6 (.cells #[.int .i64 z0, .int .i64 z1, .int .i64 z2, .int .i64 z3, .int .i64 z4, .int .i64 z5, .int .i64 z6, .int .i64 z7] 67))
  obtain ⟨d0, d1, d2⟩ := tri_cells HG7.out
  have HZ7 := hide (show w.heap.size ≤ w6.heap.size + 1 by have h1 := HB5.out.size; have h2 := hb6.size; omega)
  clear hb6 hq EX HG5 HB5
  go_wp2_with (first | ((with_reducible refine Bank.wpl_store_new 5 16 _ _ ?_ ?_ ?_ ?_ Bank.noBank_size HSE.out HOE.out ?_); rfl; rfl; rfl; rfl) | ((with_reducible refine Bank.wpl_load 5 ?_ ?_ _ ?_ _ _ HL7.out HSE.out ?_); rfl; rfl; rfl))
  go_ret
  exact ⟨w6.heap.size + 1, rfl, HZ7.out, ⟨z0, z1, z2, z3, z4, z5, z6, z7, HZ.out, SlotRef.blk2 _ _ _⟩, below_on HB7.out (below_new _ _)⟩

set_option maxRecDepth 20000 in
set_option maxHeartbeats 2000000 in
theorem new_no (root x : Int) (s : Sg) (w : World) (hs : szS s) (hE : ¬ dvcE root x s = 0) :
    Calls Tryz.prog 7 #[.int .i64 root, .int .i64 x, sgA s] w fun e w' => e = .returned (.tuple #[.pointer none, errV 96 (dvcE root x s)]) ∧ Below w.heap.size w w' := by
  have HP := hide (fun W => Key.public_is root W)
  have HX := hide (fun W => Key.secret_any x W)
  have HN := hide (fun (W : World) (h : ¬ sgE s = 0) => Slot.core.newNo s W hs h)
  have K1 := hide (fun h => dvcE_no (root := root) (x := x) (s := s) h)
  have K2 := hide (fun h => dvcE_img (root := root) (x := x) (s := s) h)
  generalize dvcE root x s = de at *
  generalize sgE s = se at *
  obtain ⟨nm, v, cd, pp, aa⟩ := s
  unfold sgA at HN ⊢
  simp only [] at HN ⊢
  have HB0 := hide (below_new w (.cells #[.string nm, .int .i64 v, .string cd, .int .i64 pp, .int .i64 aa] 27))
  obtain ⟨c0, c1, c2, c3, c4⟩ := quin_cells (blk_new w (.cells #[.string nm, .int .i64 v, .string cd, .int .i64 pp, .int .i64 aa] 27))
  clear hs
  generalize inB root = b1 at *
  generalize secB x = b2 at *
  cases b1 with
  | false =>
    have E := hide (K1.out rfl)
    clear K1 K2 hE
    go_enter Tryz.func7, Tryz.ntmps7
    go_wp2_with (go_at_call 44; refine (HP.out _).mono ?_; rintro e w1 ⟨rfl, hw⟩; rw [hw]; clear hw)
    go_ret2
    exact ⟨by rw [E.out]; rfl, HB0.out⟩
  | true =>
    cases b2 with
    | false =>
      have E := hide (K1.out rfl)
      clear K1 K2 hE
      go_enter Tryz.func7, Tryz.ntmps7
      go_wp2_with (first | (go_at_call 44; refine (HP.out _).mono ?_; rintro e w1 ⟨rfl, hw⟩; rw [hw]; clear hw) | (go_at_call 45; refine (HX.out _).mono ?_; rintro e w1 ⟨rfl, hw⟩; rw [hw]; clear hw))
      go_ret2
      exact ⟨by rw [E.out]; rfl, HB0.out⟩
    | true =>
      have E := hide (K2.out rfl)
      have HS := hide (show ¬ se = 0 from fun h => hE (by rw [E.out]; exact h))
      clear K1 K2 hE
      go_enter Tryz.func7, Tryz.ntmps7
      go_wp2_with (first | (go_at_call 44; refine (HP.out _).mono ?_; rintro e w1 ⟨rfl, hw⟩; rw [hw]; clear hw) | (go_at_call 45; refine (HX.out _).mono ?_; rintro e w1 ⟨rfl, hw⟩; rw [hw]; clear hw))
      refine (HN.out _ HS.out).mono ?_
      rintro e w1 ⟨rfl, hb1⟩
      have HB1 := hide (below_on HB0.out hb1)
      have HV := hide (Image.errV_ne (T := 96) HS.out)
      rw [HV.out]
      clear hb1 HB0 HN c0 c1 c2 c3 c4
      go_wp2
      go_ret2
      exact ⟨by rw [E.out, HV.out]; rfl, HB1.out⟩

set_option maxRecDepth 20000 in
set_option maxHeartbeats 2000000 in
theorem new_yes (root x : Int) (s : Sg) (w : World) (B : Nat) (hs : szS s) (hE : dvcE root x s = 0) (hB : B ≤ w.heap.size) :
    Calls Tryz.prog 7 #[.int .i64 root, .int .i64 x, sgA s] w fun e w' => ∃ p S, e = .returned (.tuple #[p, .nilIface]) ∧ Dvc w' B p S (newD root x s) ∧ (∀ b, S b → w.heap.size ≤ b) ∧ Below w.heap.size w w' := by
  obtain ⟨e1, e2, e3⟩ := dvcE_zero hE
  have HOK := hide (okD_new hE hs)
  have HP := hide (fun W => Key.public_is root W)
  have HX := hide (fun W => Key.secret_any x W)
  rw [e1] at HP
  rw [e2] at HX
  have HN := hide (fun (W : World) (h : B ≤ W.heap.size) => Slot.core.new s W B hs e3 h)
  have HC := hide (fun (W : World) (h : B ≤ W.heap.size) => Count.core.new W B h)
  have HBB := hide hB
  have HNT := hide (show (newD root x s).t = newT s from rfl)
  have HNR := hide (show (newD root x s).root = root ∧ (newD root x s).x = x from ⟨rfl, rfl⟩)
  have HNF := hide (show (newD root x s).f = (fun _ => 0) ∧ (newD root x s).k = 0 ∧ (newD root x s).on = false from ⟨rfl, rfl, rfl⟩)
  generalize newD root x s = nd at *
  generalize newT s = nt at *
  obtain ⟨nm, v, cd, pp, aa⟩ := s
  unfold sgA at HN ⊢
  simp only [] at HN ⊢
  have HB0 := hide (below_new w (.cells #[.string nm, .int .i64 v, .string cd, .int .i64 pp, .int .i64 aa] 27))
  obtain ⟨c0, c1, c2, c3, c4⟩ := quin_cells (blk_new w (.cells #[.string nm, .int .i64 v, .string cd, .int .i64 pp, .int .i64 aa] 27))
  clear hs hE hB e1 e2 e3
  go_enter Tryz.func7, Tryz.ntmps7
  go_wp2_with (first | (go_at_call 44; refine (HP.out _).mono ?_; rintro e w1 ⟨rfl, hw⟩; rw [hw]; clear hw) | (go_at_call 45; refine (HX.out _).mono ?_; rintro e w1 ⟨rfl, hw⟩; rw [hw]; clear hw))
  refine (HN.out _ (Nat.le_trans HBB.out HB0.out.size)).mono ?_
  rintro e w1 ⟨sp, SS, rfl, hN, hS, hb1⟩
  have HB1 := hide (below_on HB0.out hb1)
  have HN1 := hide hN
  have HS1 := hide (fun b hb => Nat.le_trans HB0.out.size (hS b hb))
  obtain ⟨g1, hg1, _⟩ := hN
  subst hg1
  clear hb1 hS HB0 HN c0 c1 c2 c3 c4
  go_wp2_with (fail)
  refine (HC.out _ (Nat.le_trans HBB.out HB1.out.size)).mono ?_
  rintro e w2 ⟨cp, SC, rfl, hC, hSC, hb2⟩
  have HB2 := hide (below_on HB1.out hb2)
  have HC2 := hide hC
  have HN2 := hide (Slot.core.below HN1.out hb2)
  have HS2 := hide hSC
  obtain ⟨g2, m2, hg2, _⟩ := hC
  subst hg2
  clear hb2 hSC HC
  have HK : Hid (Dvc (w2.alloc (.cells #[.int .i64 root, .int .i64 x, .pointer (some ⟨g2, 0, none⟩), .pointer (some ⟨g1, 0, none⟩), .pointer none] 104)) B (.pointer (some ⟨w2.heap.size, 0, none⟩)) (feet w2.heap.size SC SS (fun _ => False)) nd) := by
    have hbn := below_new w2 (.cells #[.int .i64 root, .int .i64 x, .pointer (some ⟨g2, 0, none⟩), .pointer (some ⟨g1, 0, none⟩), .pointer none] 104)
    refine ⟨w2.heap.size, .pointer (some ⟨g2, 0, none⟩), .pointer (some ⟨g1, 0, none⟩), .pointer none, SC, SS, fun _ => False, rfl, rfl, ⟨?_, ?_, ?_, Or.inl ⟨HNF.out.2.2, rfl, rfl⟩, ⟨?_, ?_, fun h => h⟩, ?_, fun k _ h => h, fun k _ h => h, Nat.le_trans HBB.out HB2.out.size⟩, HOK.out⟩
    · rw [HNR.out.1, HNR.out.2]; exact blk_new _ _
    · rw [HNF.out.1, HNF.out.2.1]; exact Count.core.below HC2.out hbn
    · rw [HNT.out]; exact Slot.core.below HN2.out hbn
    · intro h; have := (Count.core.has HC2.out _ h).2; omega
    · intro h; have := (Slot.core.has HN2.out _ h).2; omega
    · intro k h1 h2
      have h3 := (Slot.core.has HN1.out k h2).2
      have h4 := HS2.out k h1
      omega
  have HF : Hid (∀ b, feet w2.heap.size SC SS (fun _ => False) b → w.heap.size ≤ b) := by
    rintro b (rfl | h | h | h)
    · exact HB2.out.size
    · exact Nat.le_trans HB1.out.size (HS2.out b h)
    · exact HS1.out b h
    · exact h.elim
  have HB4 := hide (below_on HB2.out (below_new w2 (.cells #[.int .i64 root, .int .i64 x, .pointer (some ⟨g2, 0, none⟩), .pointer (some ⟨g1, 0, none⟩), .pointer none] 104)))
  clear HN1 HN2 HS1 HS2 HC2 HOK HNT HNR HNF
  go_wp2
  go_ret2
  exact ⟨_, _, rfl, HK.out, HF.out, HB4.out⟩

theorem core : Core Dvc where
  has := fun h => h.has
  only := fun h ho hn => h.only ho hn
  ok := fun h => by obtain ⟨_, _, _, _, _, _, _, _, _, _, hk⟩ := h; exact hk
  newNo := new_no
  new := new_yes

/-- What a method that answers an error leaves. -/
def Gone (w : World) (B g : Nat) (F : Nat → Prop) (E : Int) (d : DS) (e : Ending) (w' : World) : Prop := e = .returned (errV 96 E) ∧ Left w B g F d w'
theorem std_two {W : World} {r : Nat} {nm cd : ByteArray} {v m : Int} (h : Std W r nm v cd m) : W.cell? ⟨r, 0, none⟩ = some (.string nm) ∧ W.cell? ⟨r, 1, none⟩ = some (.int .i64 v) ∧ W.cell? ⟨r, 2, none⟩ = some (.string cd) := by
  obtain ⟨z0, z1, z2, z3, z4, z5, z6, z7, _, h⟩ := h
  refine ⟨?_, ?_, ?_⟩ <;> rw [cell_of_row W r _ _ _ _ h] <;> rfl
/-- What Good reads. -/
def GX (g r : Nat) (cp : Value) (nm : ByteArray) (v : Int) (W : World) : Prop := W.cell? ⟨g, 2, none⟩ = some cp ∧ W.cell? ⟨g, 4, none⟩ = some (.pointer (some ⟨r, 0, none⟩)) ∧ W.cell? ⟨r, 0, none⟩ = some (.string nm) ∧ W.cell? ⟨r, 1, none⟩ = some (.int .i64 v)
theorem gx_drew {g r : Nat} {cp : Value} {nm : ByteArray} {v : Int} {W : World} (h : GX g r cp nm v W) : GX g r cp nm v W.drew := h
theorem gx_of {w W : World} {B g r : Nat} {F : Nat → Prop} {cp sp : Value} {SC SS R : Nat → Prop} {d : DS} (h : Aft w B g F cp sp (.pointer (some ⟨r, 0, none⟩)) SC SS R d W) : GX g r cp d.nm d.v W := by
  obtain ⟨_, _, c2, _, c4⟩ := aft_cells h
  rcases h.1.2.2.2.1 with ⟨_, he, _⟩ | ⟨r', _, he, _, _, hs⟩
  · cases he
  · cases he
    obtain ⟨s0, s1, _⟩ := std_two hs
    exact ⟨c2, c4, s0, s1⟩

set_option maxRecDepth 20000 in
set_option maxHeartbeats 4000000 in
theorem good_any (g : Nat) (cp sp rp : Value) (SC SS R : Nat → Prop) (d : DS) (w : World) (B : Nat) (h : DIs w B g cp sp rp SC SS R d) (hok : OkD d) (hB : B ≤ w.heap.size) :
    Calls Tryz.prog 11 #[.pointer (some ⟨g, 0, none⟩)] w (Gone w B g (feet g SC SS R) (gooE d) (gooD d)) := by
  have hA := aft_of h
  obtain ⟨c0, c1, c2, c3, c4⟩ := aft_cells hA
  rcases h.2.2.2.1 with ⟨hon, hrp, hR⟩ | ⟨r, hon, hrp, hR, hBr, hstd⟩
  · have E := hide (show gooE d = 6 by unfold gooE; rw [hon]; rfl)
    have E2 := hide (show gooD d = d by unfold gooD; rw [if_neg (by rw [hon]; intro hc; cases hc.1)])
    have HL := hide (aft_left hA hok)
    subst hrp
    clear h hA hok hB hon hR
    go_enter Tryz.func11, Tryz.ntmps11
    go_wp2
    go_ret
    exact ⟨by rw [E.out]; rfl, by rw [E2.out]; exact HL.out⟩
  · have E := hide (show gooE d = goodE d.t by unfold gooE; rw [hon]; rfl)
    have GO := hide (Slot.goodLaw sp SS d.t w B h.2.2.1 hB)
    have HBB := hide hB
    have HA := hide hA
    have HOG := hide (okD_goo hok)
    have HOK := hide hok
    have HNZ : Hid (d.nm.size ≤ 140737488351232) := by
      obtain ⟨n0, m0, _, _, _, _, _, _, _, hi0⟩ := okD_rai hok hon
      have := (imgE_zero hi0).2.2.2.1
      show d.nm.size ≤ 140737488351232
      omega
    have HRZ : Hid (raiE d.f d.k d.nm d.v = 0) := by
      obtain ⟨n0, m0, _, _, _, _, h0, _⟩ := okD_rai hok hon
      exact h0
    subst hrp
    obtain ⟨gs, hsp, _⟩ := h.2.2.1
    subst hsp
    by_cases hg : goodE d.t = 0
    · have E2 := hide (show gooD d = { d with t := goodT d.t, f := raiF d.f d.k d.nm d.v, k := raiK d.f d.k d.nm d.v } by unfold gooD; rw [if_pos ⟨hon, hg⟩])
      rw [hg, errV_zero] at GO
      have E0 := hide (E.out.trans hg)
      obtain ⟨gc, mc, hcp, _⟩ := h.2.1
      subst hcp
      have RA := hide (fun (SS' : Nat → Prop) (W : World) (h : Aft w B g (feet g SC SS R) (.pointer (some ⟨gc, 0, none⟩)) (.pointer (some ⟨gs, 0, none⟩)) (.pointer (some ⟨r, 0, none⟩)) SC SS' R { d with t := goodT d.t } W) => Count.raiseLaw (.pointer (some ⟨gc, 0, none⟩)) SC d.f d.k d.nm d.v W B h.1.2.1 HNZ.out (Nat.le_trans HBB.out h.2.1.size))
      rw [HRZ.out, errV_zero] at RA
      have GXO := hide (fun (SC SS' : Nat → Prop) (d' : DS) (F : Nat → Prop) (W : World) (h : Aft w B g F (.pointer (some ⟨gc, 0, none⟩)) (.pointer (some ⟨gs, 0, none⟩)) (.pointer (some ⟨r, 0, none⟩)) SC SS' R d' W) => gx_of h)
      clear h hA hok hB hon hR hBr hstd hg E HOK
      go_enter Tryz.func11, Tryz.ntmps11
      go_wp2_with (fail)
      refine GO.out.mono ?_
      rintro e w1 ⟨SS', rfl, hs1, ho1, hf1⟩
      have hA1 := aft_slt HA.out hs1 ho1 hf1
      have hg1 := GXO.out _ _ _ _ _ hA1
      have hG1 : GX g r (.pointer (some ⟨gc, 0, none⟩)) d.nm d.v w1 := hg1
      obtain ⟨d2, d4, q0, q1⟩ := hg1
      simp only [] at q0 q1
      clear hs1 ho1 hf1 GO HA c0 c1 c2 c3 c4
      go_wp2_with (fail)
      go_region_held3 (fun W => W.cell? ⟨g, 2, none⟩ = some (.pointer (some ⟨gc, 0, none⟩)) ∧ W.cell? ⟨g, 4, none⟩ = some (.pointer (some ⟨r, 0, none⟩)) ∧ W.cell? ⟨r, 0, none⟩ = some (.string d.nm) ∧ W.cell? ⟨r, 1, none⟩ = some (.int .i64 d.v))
        (exact (by with_reducible repeat (first | assumption | apply gx_drew) : GX g r (.pointer (some ⟨gc, 0, none⟩)) d.nm d.v _))
        ((go_at_call 55; refine (RA.out SS' _ (by with_reducible repeat (first | assumption | apply aft_drew))).mono ?_; rintro e w2 ⟨SC', rfl, hc2, ho2, hf2⟩; have hA2 := aft_cnt (by with_reducible repeat (first | assumption | apply aft_drew)) hc2 ho2 hf2; have hg2 := GXO.out _ _ _ _ _ hA2; have hG2 : GX g r (.pointer (some ⟨gc, 0, none⟩)) d.nm d.v w2 := hg2; clear hg2))
      have HA2 := hide hA2
      clear hA2 hG2 hG1 hA1 hc2 ho2 hf2 d2 d4 q0 q1
      go_wp2
      go_ret
      exact ⟨by rw [E0.out]; rfl, aft_left (by rw [E2.out]; with_reducible repeat (first | exact HA2.out | apply aft_drew)) HOG.out⟩
    · have E2 := hide (show gooD d = d by unfold gooD; rw [if_neg (fun hc => hg hc.2)])
      have E3 := hide (show goodT d.t = d.t by unfold goodT; rw [if_pos]; by_cases hc : (d.t.at d.t.r).good = true; exact hc; exact absurd (by unfold goodE; rw [if_neg hc]) hg)
      have HV := hide (Image.errV_ne (T := 96) hg)
      rw [HV.out] at GO
      clear h hA hok hB hon hR hBr hstd hg
      go_enter Tryz.func11, Tryz.ntmps11
      go_wp2_with (fail)
      refine GO.out.mono ?_
      rintro e w1 ⟨SS', rfl, hs1, ho1, hf1⟩
      have HA1 := hide (aft_slt HA.out hs1 ho1 hf1)
      clear hs1 ho1 hf1 GO HA c0 c1 c2 c3 c4
      go_wp2
      go_ret
      exact ⟨by rw [E.out, HV.out]; rfl, by rw [E2.out]; exact aft_left (d := d) (by have := HA1.out; rw [E3.out] at this; exact this) HOK.out⟩
theorem goodLaw : GoodLaw Dvc := by
  intro p S d w B h hB
  obtain ⟨g, cp, sp, rp, SC, SS, R, rfl, rfl, hd, hok⟩ := h
  refine (good_any g cp sp rp SC SS R d w B hd hok hB).mono ?_
  rintro e w' ⟨rfl, S', h1, h2, h3⟩
  exact ⟨S', rfl, h1, h2, h3⟩
theorem results_im {fn : Func} {p u : Tmp} (h : fn.results = #[.cell p 23, .tmp u]) (tmps : Array Value) (w : World) (b : Nat) (c : Array Value) (v : Value) (hp : tmps.getD p undef = .pointer (some ⟨b, 0, none⟩)) (hu : tmps.getD u undef = v)
    (hg : w.heap[b]? = some (.cells c 23)) (hs : c.size = 3) : (results fn tmps).run Tryz.prog w = .ok (.tuple #[.agg c, v]) w := by
  rw [results_cell_tmp h, hp, hu]
  simp [asAddr, Image.load_img hg hs, Result.andThen]
/-- What Runs answers. -/
def Ran (w : World) (nm : ByteArray) (v : Int) (cd : ByteArray) (E : Int) (e : Ending) (w' : World) : Prop := e = .returned (.tuple #[.agg #[.string nm, .int .i64 v, .string cd], errV 96 E]) ∧ Below w.heap.size w w'
set_option maxRecDepth 20000 in
set_option maxHeartbeats 2000000 in
theorem runs_no (g : Nat) (w : World) (c4 : w.cell? ⟨g, 4, none⟩ = some (.pointer none)) :
    Calls Tryz.prog 9 #[.pointer (some ⟨g, 0, none⟩)] w (Ran w { data := #[] } 0 { data := #[] } 6) := by
  have hl := World.block_lt_of_cell? w _ c4
  have c4' : (w.alloc (.cells #[.string { data := #[] }, .int .i64 0, .string { data := #[] }] 23)).cell? ⟨g, 4, none⟩ = some (.pointer none) := ((below_new w _).cell (p := ⟨g, 4, none⟩) hl).trans c4
  have HB0 := hide (below_new w (.cells #[.string { data := #[] }, .int .i64 0, .string { data := #[] }] 23))
  have HG0 := hide (blk_new w (.cells #[.string { data := #[] }, .int .i64 0, .string { data := #[] }] 23))
  clear hl
  go_enter Tryz.func9, Tryz.ntmps9
  go_wp2
  refine bodyPost_ret (v := .tuple #[.agg #[.string { data := #[] }, .int .i64 0, .string { data := #[] }], .iface 96 (.int .i64 6)]) ?_ rfl ⟨rfl, ?_⟩
  · exact results_im (p := 2) (u := 3) rfl _ _ w.heap.size _ _ rfl rfl HG0.out rfl
  · exact HB0.out
set_option maxRecDepth 20000 in
set_option maxHeartbeats 2000000 in
theorem runs_yes (g r : Nat) (nm cd : ByteArray) (v m : Int) (w : World) (c4 : w.cell? ⟨g, 4, none⟩ = some (.pointer (some ⟨r, 0, none⟩))) (hs : Std w r nm v cd m) (hn : nm.size ≤ 140737488351232) (hc : cd.size ≤ 140737488351232) :
    Calls Tryz.prog 9 #[.pointer (some ⟨g, 0, none⟩)] w (Ran w nm v cd 0) := by
  have hb0 := below_new w (.cells #[.string { data := #[] }, .int .i64 0, .string { data := #[] }] 23)
  have d4 := (hb0.cell (p := ⟨g, 4, none⟩) (World.block_lt_of_cell? w _ c4)).trans c4
  obtain ⟨s0, s1, s2⟩ := std_two (hs.only (Only.of_below (S := fun _ => False) hb0) (fun h => h))
  have HB0 := hide hb0
  have HG0 := hide (blk_new w (.cells #[.string { data := #[] }, .int .i64 0, .string { data := #[] }] 23))
  have CL := hide (fun W => Image.clones_any nm cd v W hn hc)
  unfold imgC at CL
  clear hs hn hc hb0 c4
  go_enter Tryz.func9, Tryz.ntmps9
  go_wp2_with (fail)
  refine (CL.out _).mono ?_
  rintro e w1 ⟨rfl, hb1⟩
  have HB1 := hide (below_on HB0.out hb1)
  have HG1 := hide (blk_below HG0.out hb1)
  obtain ⟨k0, k1, k2⟩ := tri_cells HG1.out
  obtain ⟨f0, f1, f2⟩ := tri_free HG1.out
  clear hb1 HB0 HG0 CL s0 s1 s2 d4
  go_wp2
  rw [tri_set HG1.out]
  refine bodyPost_ret (v := .tuple #[.agg #[.string nm, .int .i64 v, .string cd], .nilIface]) ?_ rfl ⟨rfl, ?_⟩
  · exact results_im (p := 2) (u := 3) rfl _ _ w.heap.size _ _ rfl rfl (setRow_heap _ _ _ _ _ _ HG1.out) rfl
  · exact below_setRow HB1.out (Nat.le_refl _) _
theorem ok_sizes {d : DS} (hok : OkD d) (hon : d.on = true) : d.nm.size ≤ 140737488351232 ∧ d.cd.size ≤ 140737488351232 := by
  obtain ⟨n0, m0, _, _, _, _, _, _, _, hi0⟩ := okD_rai hok hon
  obtain ⟨_, _, _, h1, h2, _⟩ := imgE_zero hi0
  exact ⟨by omega, by omega⟩
theorem runsLaw : RunsLaw Dvc := by
  intro p S d w B h
  obtain ⟨g, cp, sp, rp, SC, SS, R, rfl, rfl, hd, hok⟩ := h
  obtain ⟨c0, c1, c2, c3, c4⟩ := aft_cells (aft_of hd)
  rcases hd.2.2.2.1 with ⟨hon, rfl, hR⟩ | ⟨r, hon, rfl, hR, hBr, hstd⟩
  · have e1 : runD d = 6 := by unfold runD; rw [hon]; rfl
    rw [e1, hon]
    exact runs_no g w c4
  · have e1 : runD d = 0 := by unfold runD; rw [hon]; rfl
    rw [e1, hon]
    obtain ⟨hn, hc⟩ := ok_sizes hok hon
    exact runs_yes g r d.nm d.cd d.v _ w c4 hstd hn hc

theorem results_ctt {fn : Func} {p x y : Tmp} {ty : TypeId} (h : fn.results = #[.cell p ty, .tmp x, .tmp y]) (tmps : Array Value) (P : Program) (w : World) :
    (results fn tmps).run P w = ((asAddr (tmps.getD p undef)).run P w).andThen fun a w1 => ((loadVar ty a).run P w1).andThen fun v w2 => .ok (.tuple #[v, tmps.getD x undef, tmps.getD y undef]) w2 := by
  simp only [results, h]
  simp [Sem.run_bind, Result.andThen]
theorem results_tell {fn : Func} {p x y : Tmp} (h : fn.results = #[.cell p 45, .tmp x, .tmp y]) (tmps : Array Value) (w : World) (b : Nat) (c : Array Value) (vx vy : Value) (hp : tmps.getD p undef = .pointer (some ⟨b, 0, none⟩)) (hx : tmps.getD x undef = vx) (hy : tmps.getD y undef = vy)
    (hg : w.heap[b]? = some (.cells c 45)) (hs : c.size = 5) : (results fn tmps).run Tryz.prog w = .ok (.tuple #[.agg c, vx, vy]) w := by
  rw [results_ctt h, hp, hx, hy]
  simp [asAddr, Quote.load_quote hg hs, Result.andThen]
/-- What Tell answers. -/
def Told (w : World) (q0 q1 q2 q3 q4 : Int) (l : List (Int × Int)) (E : Int) (e : Ending) (w' : World) : Prop :=
  (∃ ae ce, e = .returned (.tuple #[.agg #[.int .i64 q0, .int .i64 q1, .int .i64 q2, .int .i64 q3, .int .i64 q4], .slice ae l.length ce, errV 96 E]) ∧ RRow 2 evV w' ae l ∧ (∀ b, ae.map (·.block) = some b → w.heap.size ≤ b)) ∧ Below w.heap.size w w'
theorem told_no {w w' : World} {q0 q1 q2 q3 q4 E : Int} {e : Ending} (he : e = .returned (.tuple #[.agg #[.int .i64 q0, .int .i64 q1, .int .i64 q2, .int .i64 q3, .int .i64 q4], .slice none 0 0, errV 96 E])) (hb : Below w.heap.size w w') : Told w q0 q1 q2 q3 q4 [] E e w' :=
  ⟨⟨none, 0, he, RRow.nil _ _, fun b h => by cases h⟩, hb⟩
set_option maxRecDepth 20000 in
set_option maxHeartbeats 2000000 in
theorem tell_no (g : Nat) (k n m : Int) (w : World) (c4 : w.cell? ⟨g, 4, none⟩ = some (.pointer none)) :
    Calls Tryz.prog 14 #[.pointer (some ⟨g, 0, none⟩), .int .i64 k, .int .i64 n, .int .i64 m] w (Told w 0 0 0 0 0 [] 6) := by
  have c4' : (w.alloc (.cells #[.int .i64 0, .int .i64 0, .int .i64 0, .int .i64 0, .int .i64 0] 45)).cell? ⟨g, 4, none⟩ = some (.pointer none) := ((below_new w _).cell (p := ⟨g, 4, none⟩) (World.block_lt_of_cell? w _ c4)).trans c4
  have HB0 := hide (below_new w (.cells #[.int .i64 0, .int .i64 0, .int .i64 0, .int .i64 0, .int .i64 0] 45))
  have HG0 := hide (blk_new w (.cells #[.int .i64 0, .int .i64 0, .int .i64 0, .int .i64 0, .int .i64 0] 45))
  go_enter Tryz.func14, Tryz.ntmps14
  go_wp2
  refine bodyPost_ret (v := .tuple #[.agg #[.int .i64 0, .int .i64 0, .int .i64 0, .int .i64 0, .int .i64 0], .slice none 0 0, .iface 96 (.int .i64 6)]) ?_ rfl (told_no rfl ?_)
  · exact results_tell (p := 8) (x := 9) (y := 10) rfl _ _ w.heap.size _ _ _ rfl rfl rfl HG0.out rfl
  · exact HB0.out

/-- Memory that was there stays as it was (by a name of its own, which the walk does not open). -/
def KB (w W : World) : Prop := Below w.heap.size w W
theorem kb_refl (w : World) : KB w w := Below.refl _ _
theorem kb_drew {w W : World} (h : KB w W) : KB w W.drew := Below.drew h
theorem kb_below {w W W' : World} (h : KB w W) (hb : Below W.heap.size W W') : KB w W' := below_on h hb
theorem kb_alloc {w W : World} {o : Obj} (h : KB w W) : KB w (W.alloc o) := below_on h (below_new _ _)
theorem kb_set {wc W : World} {i b : Nat} {v : Value} (hb : wc.heap.size ≤ b) (h : KB wc W) : KB wc (W.setCell ⟨b, i, none⟩ v) := ((Only.of_below (S := fun k => k = b) h).setCell (p := ⟨b, i, none⟩) rfl v).below (Nat.le_refl _) (fun k hk => by rw [show k = b from hk]; exact hb)
theorem kb_set0 {wc W : World} {i : Nat} {v : Value} (h : KB wc W) : KB wc (W.setCell ⟨wc.heap.size, i, none⟩ v) := kb_set (Nat.le_refl _) h
theorem kb_S {w W : World} {P : Prop} (h : KB w W) (f : KB w W → P) : P ∧ KB w W := ⟨f h, h⟩
theorem cell_pass {W w5 : World} (hb : Below W.heap.size W w5) (b : Nat) : ∀ i : Nat, b < W.heap.size → w5.cell? ⟨b, i, none⟩ = W.cell? ⟨b, i, none⟩ := fun i h => hb.cell (p := ⟨b, i, none⟩) h
theorem froz_pass {W w5 : World} (hb : Below W.heap.size W w5) (b : Nat) : ∀ i : Nat, b < W.heap.size → w5.frozen? ⟨b, i, none⟩ = W.frozen? ⟨b, i, none⟩ := fun i h => by
  unfold World.frozen?
  rw [show w5.heap[b]? = W.heap[b]? from hb.block b h]
theorem kb_cell {w W : World} {b i : Nat} {v : Value} (h : KB w W) (hc : w.cell? ⟨b, i, none⟩ = some v) : W.cell? ⟨b, i, none⟩ = some v := (Below.cell (p := ⟨b, i, none⟩) h (World.block_lt_of_cell? w _ hc)).trans hc
/-- A quote that was laid. -/
def QL (wc : World) (gs : Nat) (q0 q1 q2 q3 q4 : Int) (W : World) : Prop := W.heap[gs]? = some (.cells #[.int .i64 q0, .int .i64 q1, .int .i64 q2, .int .i64 q3, .int .i64 q4] 45) ∧ KB wc W
section Ql
variable {wc w5 W : World} {gs : Nat} {q0 q1 q2 q3 q4 : Int}
theorem ql_drew (h : QL wc gs q0 q1 q2 q3 q4 W) : QL wc gs q0 q1 q2 q3 q4 W.drew := ⟨h.1, kb_drew h.2⟩
theorem ql_store {x0 x1 x2 x3 x4 : Value} (h : w5.heap[gs]? = some (.cells #[x0, x1, x2, x3, x4] 45)) (hk : KB wc w5) (hg : wc.heap.size ≤ gs) : QL wc gs q0 q1 q2 q3 q4 (((((w5.setCell ⟨gs, 0, none⟩ (.int .i64 q0)).setCell ⟨gs, 1, none⟩ (.int .i64 q1)).setCell ⟨gs, 2, none⟩ (.int .i64 q2)).setCell ⟨gs, 3, none⟩ (.int .i64 q3)).setCell ⟨gs, 4, none⟩ (.int .i64 q4)) := by
  rw [quin_set h]
  exact ⟨setRow_heap _ _ _ _ _ _ h, below_setRow hk hg _⟩
theorem ql_alloc (hk : KB wc w5) : QL wc w5.heap.size q0 q1 q2 q3 q4 (w5.alloc (.cells #[.int .i64 q0, .int .i64 q1, .int .i64 q2, .int .i64 q3, .int .i64 q4] 45)) := ⟨blk_new _ _, kb_alloc hk⟩
theorem ql_1 (hb : Below (wc.alloc (.cells #[.int .i64 0, .int .i64 0, .int .i64 0, .int .i64 0, .int .i64 0] 45)).heap.size (wc.alloc (.cells #[.int .i64 0, .int .i64 0, .int .i64 0, .int .i64 0, .int .i64 0] 45)) w5) (hk : KB wc w5) :
    QL wc wc.heap.size q0 q1 q2 q3 q4 (((((w5.setCell ⟨wc.heap.size, 0, none⟩ (.int .i64 q0)).setCell ⟨wc.heap.size, 1, none⟩ (.int .i64 q1)).setCell ⟨wc.heap.size, 2, none⟩ (.int .i64 q2)).setCell ⟨wc.heap.size, 3, none⟩ (.int .i64 q3)).setCell ⟨wc.heap.size, 4, none⟩ (.int .i64 q4)) := ql_store (blk_below (blk_new wc _) hb) hk (Nat.le_refl _)
theorem ql_2 (hb : Below (wc.drew.alloc (.cells #[.int .i64 0, .int .i64 0, .int .i64 0, .int .i64 0, .int .i64 0] 45)).heap.size (wc.drew.alloc (.cells #[.int .i64 0, .int .i64 0, .int .i64 0, .int .i64 0, .int .i64 0] 45)) w5) (hk : KB wc w5) :
    QL wc wc.heap.size q0 q1 q2 q3 q4 (((((w5.setCell ⟨wc.heap.size, 0, none⟩ (.int .i64 q0)).setCell ⟨wc.heap.size, 1, none⟩ (.int .i64 q1)).setCell ⟨wc.heap.size, 2, none⟩ (.int .i64 q2)).setCell ⟨wc.heap.size, 3, none⟩ (.int .i64 q3)).setCell ⟨wc.heap.size, 4, none⟩ (.int .i64 q4)) := ql_store (blk_below (w := wc.drew.alloc (.cells #[.int .i64 0, .int .i64 0, .int .i64 0, .int .i64 0, .int .i64 0] 45)) (blk_new wc _) hb) hk (Nat.le_refl _)
theorem ql_3 (hb : Below (wc.alloc (.cells #[.int .i64 0, .int .i64 0, .int .i64 0, .int .i64 0, .int .i64 0] 45)).drew.heap.size (wc.alloc (.cells #[.int .i64 0, .int .i64 0, .int .i64 0, .int .i64 0, .int .i64 0] 45)).drew w5) (hk : KB wc w5) :
    QL wc wc.heap.size q0 q1 q2 q3 q4 (((((w5.setCell ⟨wc.heap.size, 0, none⟩ (.int .i64 q0)).setCell ⟨wc.heap.size, 1, none⟩ (.int .i64 q1)).setCell ⟨wc.heap.size, 2, none⟩ (.int .i64 q2)).setCell ⟨wc.heap.size, 3, none⟩ (.int .i64 q3)).setCell ⟨wc.heap.size, 4, none⟩ (.int .i64 q4)) := ql_store (blk_below (w := (wc.alloc (.cells #[.int .i64 0, .int .i64 0, .int .i64 0, .int .i64 0, .int .i64 0] 45)).drew) (blk_new wc _) hb) hk (Nat.le_refl _)
theorem ql_4 (hb : Below (wc.drew.alloc (.cells #[.int .i64 0, .int .i64 0, .int .i64 0, .int .i64 0, .int .i64 0] 45)).drew.heap.size (wc.drew.alloc (.cells #[.int .i64 0, .int .i64 0, .int .i64 0, .int .i64 0, .int .i64 0] 45)).drew w5) (hk : KB wc w5) :
    QL wc wc.heap.size q0 q1 q2 q3 q4 (((((w5.setCell ⟨wc.heap.size, 0, none⟩ (.int .i64 q0)).setCell ⟨wc.heap.size, 1, none⟩ (.int .i64 q1)).setCell ⟨wc.heap.size, 2, none⟩ (.int .i64 q2)).setCell ⟨wc.heap.size, 3, none⟩ (.int .i64 q3)).setCell ⟨wc.heap.size, 4, none⟩ (.int .i64 q4)) := ql_store (blk_below (w := (wc.drew.alloc (.cells #[.int .i64 0, .int .i64 0, .int .i64 0, .int .i64 0, .int .i64 0] 45)).drew) (blk_new wc _) hb) hk (Nat.le_refl _)
end Ql
/-- While the quote is stored and the events are built: what is read, and where the answer lies. -/
def TL (w : World) (g r gs : Nat) (rp : Value) (m : Int) (q0 q1 q2 q3 q4 : Int) (W : World) : Prop :=
  Below w.heap.size w W ∧ (∃ x0 x1 x2 x3 x4, W.heap[w.heap.size]? = some (.cells #[x0, x1, x2, x3, x4] 45)) ∧ w.heap.size < gs ∧ W.heap[gs]? = some (.cells #[.int .i64 q0, .int .i64 q1, .int .i64 q2, .int .i64 q3, .int .i64 q4] 45) ∧
    (g < w.heap.size ∧ r < w.heap.size) ∧ w.cell? ⟨g, 4, none⟩ = some rp ∧ w.cell? ⟨r, 11, none⟩ = some (.int .i64 0) ∧ w.cell? ⟨r, 12, none⟩ = some (.int .i64 m)
/-- Behind it. -/
def Fin (w : World) (be : Nat) (m : Int) (q0 q1 q2 q3 q4 : Int) (W : World) : Prop :=
  Below w.heap.size w W ∧ W.heap[w.heap.size]? = some (.cells #[.int .i64 q0, .int .i64 q1, .int .i64 q2, .int .i64 q3, .int .i64 q4] 45) ∧ W.heap[be]? = some (.cells #[.int .i64 0, .int .i64 m] 51) ∧ w.heap.size ≤ be
section Tl
variable {w W W' : World} {g r gs be : Nat} {rp : Value} {m q0 q1 q2 q3 q4 : Int}
theorem tl_S (h : TL w g r gs rp m q0 q1 q2 q3 q4 W) : (W.cell? ⟨gs, 0, none⟩ = some (.int .i64 q0) ∧ W.cell? ⟨gs, 1, none⟩ = some (.int .i64 q1) ∧ W.cell? ⟨gs, 2, none⟩ = some (.int .i64 q2) ∧ W.cell? ⟨gs, 3, none⟩ = some (.int .i64 q3) ∧ W.cell? ⟨gs, 4, none⟩ = some (.int .i64 q4))
    ∧ (W.cell? ⟨g, 4, none⟩ = some rp ∧ W.cell? ⟨r, 11, none⟩ = some (.int .i64 0) ∧ W.cell? ⟨r, 12, none⟩ = some (.int .i64 m))
    ∧ (W.frozen? ⟨w.heap.size, 0, none⟩ = false ∧ W.frozen? ⟨w.heap.size, 1, none⟩ = false ∧ W.frozen? ⟨w.heap.size, 2, none⟩ = false ∧ W.frozen? ⟨w.heap.size, 3, none⟩ = false ∧ W.frozen? ⟨w.heap.size, 4, none⟩ = false)
    ∧ (W.cell? ⟨w.heap.size, 0, none⟩ = some (Image.cellAt W w.heap.size 0) ∧ W.cell? ⟨w.heap.size, 1, none⟩ = some (Image.cellAt W w.heap.size 1) ∧ W.cell? ⟨w.heap.size, 2, none⟩ = some (Image.cellAt W w.heap.size 2) ∧ W.cell? ⟨w.heap.size, 3, none⟩ = some (Image.cellAt W w.heap.size 3) ∧ W.cell? ⟨w.heap.size, 4, none⟩ = some (Image.cellAt W w.heap.size 4)) := by
  obtain ⟨h1, ⟨x0, x1, x2, x3, x4, h2⟩, h3, h4, ⟨h5, h6⟩, h7, h8, h9⟩ := h
  obtain ⟨e0, e1, e2, e3, e4⟩ := quin_cells h2
  exact ⟨quin_cells h4, ⟨kb_cell h1 h7, kb_cell h1 h8, kb_cell h1 h9⟩, quin_free h2, Image.cellAt_of e0, Image.cellAt_of e1, Image.cellAt_of e2, Image.cellAt_of e3, Image.cellAt_of e4⟩
theorem tl_below (h : TL w g r gs rp m q0 q1 q2 q3 q4 W) (hb : Below W.heap.size W W') : TL w g r gs rp m q0 q1 q2 q3 q4 W' := by
  obtain ⟨h1, ⟨x0, x1, x2, x3, x4, h2⟩, h3, h4, h5⟩ := h
  exact ⟨below_on h1 hb, ⟨x0, x1, x2, x3, x4, blk_below h2 hb⟩, h3, blk_below h4 hb, h5⟩
theorem tl_drew (h : TL w g r gs rp m q0 q1 q2 q3 q4 W) : TL w g r gs rp m q0 q1 q2 q3 q4 W.drew := tl_below h (Below.drew (Below.refl _ _))
theorem tl_alloc {o : Obj} (h : TL w g r gs rp m q0 q1 q2 q3 q4 W) : TL w g r gs rp m q0 q1 q2 q3 q4 (W.alloc o) := tl_below h (below_new _ _)
theorem tl_row (h : TL w g r gs rp m q0 q1 q2 q3 q4 W) (u0 u1 u2 u3 u4 : Value) : (((((W.setCell ⟨w.heap.size, 0, none⟩ u0).setCell ⟨w.heap.size, 1, none⟩ u1).setCell ⟨w.heap.size, 2, none⟩ u2).setCell ⟨w.heap.size, 3, none⟩ u3).setCell ⟨w.heap.size, 4, none⟩ u4) = W.setRow w.heap.size #[u0, u1, u2, u3, u4] ∧ (W.setRow w.heap.size #[u0, u1, u2, u3, u4]).heap[w.heap.size]? = some (.cells #[u0, u1, u2, u3, u4] 45) := by
  obtain ⟨h1, ⟨x0, x1, x2, x3, x4, h2⟩, h3, h4, h5⟩ := h
  exact ⟨quin_set h2, setRow_heap _ _ _ _ _ _ h2⟩
theorem tl_five {u0 u1 u2 u3 u4 : Value} (h : TL w g r gs rp m q0 q1 q2 q3 q4 W) : TL w g r gs rp m q0 q1 q2 q3 q4 (((((W.setCell ⟨w.heap.size, 0, none⟩ u0).setCell ⟨w.heap.size, 1, none⟩ u1).setCell ⟨w.heap.size, 2, none⟩ u2).setCell ⟨w.heap.size, 3, none⟩ u3).setCell ⟨w.heap.size, 4, none⟩ u4) := by
  obtain ⟨e1, e2⟩ := tl_row h u0 u1 u2 u3 u4
  obtain ⟨h1, ⟨x0, x1, x2, x3, x4, h2⟩, h3, h4, h5⟩ := h
  rw [e1]
  exact ⟨below_setRow h1 (Nat.le_refl _) _, ⟨_, _, _, _, _, e2⟩, h3, (setRow_other _ _ _ _ (by omega)).trans h4, h5⟩
theorem fin_drew (h : Fin w be m q0 q1 q2 q3 q4 W) : Fin w be m q0 q1 q2 q3 q4 W.drew := ⟨Below.drew h.1, h.2⟩
/-- The events are built first, then the quote is stored. -/
theorem fin_a (h : TL w g r gs rp m q0 q1 q2 q3 q4 W) : Fin w W.heap.size m q0 q1 q2 q3 q4 ((((((W.alloc (.cells #[.int .i64 0, .int .i64 m] 51)).setCell ⟨w.heap.size, 0, none⟩ (.int .i64 q0)).setCell ⟨w.heap.size, 1, none⟩ (.int .i64 q1)).setCell ⟨w.heap.size, 2, none⟩ (.int .i64 q2)).setCell ⟨w.heap.size, 3, none⟩ (.int .i64 q3)).setCell ⟨w.heap.size, 4, none⟩ (.int .i64 q4)) := by
  have hlt := blk_lt h.2.1.choose_spec.choose_spec.choose_spec.choose_spec.choose_spec
  have h' := tl_alloc (o := .cells #[.int .i64 0, .int .i64 m] 51) h
  obtain ⟨e1, e2⟩ := tl_row h' (.int .i64 q0) (.int .i64 q1) (.int .i64 q2) (.int .i64 q3) (.int .i64 q4)
  rw [e1]
  exact ⟨below_setRow h'.1 (Nat.le_refl _) _, e2, (setRow_other _ _ _ _ (by omega)).trans (blk_new _ _), Nat.le_of_lt hlt⟩
/-- The other way round. -/
theorem fin_b (h : TL w g r gs rp m q0 q1 q2 q3 q4 W) : Fin w W.heap.size m q0 q1 q2 q3 q4 ((((((W.setCell ⟨w.heap.size, 0, none⟩ (.int .i64 q0)).setCell ⟨w.heap.size, 1, none⟩ (.int .i64 q1)).setCell ⟨w.heap.size, 2, none⟩ (.int .i64 q2)).setCell ⟨w.heap.size, 3, none⟩ (.int .i64 q3)).setCell ⟨w.heap.size, 4, none⟩ (.int .i64 q4)).alloc (.cells #[.int .i64 0, .int .i64 m] 51)) := by
  have hlt := blk_lt h.2.1.choose_spec.choose_spec.choose_spec.choose_spec.choose_spec
  have h' := tl_five (u0 := .int .i64 q0) (u1 := .int .i64 q1) (u2 := .int .i64 q2) (u3 := .int .i64 q3) (u4 := .int .i64 q4) h
  obtain ⟨e1, e2⟩ := tl_row h (.int .i64 q0) (.int .i64 q1) (.int .i64 q2) (.int .i64 q3) (.int .i64 q4)
  rw [e1] at h' ⊢
  have hsz : (W.setRow w.heap.size #[.int .i64 q0, .int .i64 q1, .int .i64 q2, .int .i64 q3, .int .i64 q4]).heap.size = W.heap.size := by simp [World.setRow]
  exact ⟨below_on h'.1 (below_new _ _), blk_keep e2 _, by rw [← hsz]; exact blk_new _ _, Nat.le_of_lt hlt⟩
theorem fin_told {e : Ending} (h : Fin w be m q0 q1 q2 q3 q4 W) (he : e = .returned (.tuple #[.agg #[.int .i64 q0, .int .i64 q1, .int .i64 q2, .int .i64 q3, .int .i64 q4], .slice (some ⟨be, 0, none⟩) 1 1, .nilIface])) : Told w q0 q1 q2 q3 q4 [(0, m)] 0 e W := by
  refine ⟨⟨some ⟨be, 0, none⟩, 1, he, ?_, ?_⟩, h.1⟩
  · refine Or.inr ⟨be, 0, rfl, ?_⟩
    intro k x hx j v hv
    match k, hx with
    | 0, hx =>
      cases hx
      match j, hv with
      | 0, hv => cases hv; rw [cell_of_row W be _ _ _ _ h.2.2.1]; rfl
      | 1, hv => cases hv; rw [cell_of_row W be _ _ _ _ h.2.2.1]; rfl
  · intro b hb
    cases hb
    exact h.2.2.2
end Tl
theorem std_all {W : World} {r : Nat} {nm cd : ByteArray} {v m : Int} (h : Std W r nm v cd m) : ∃ z0 z1 z2 z3 z4 z5 z6 z7 : Int, bankC (repV [(0, m)]) = #[.int .i64 z0, .int .i64 z1, .int .i64 z2, .int .i64 z3, .int .i64 z4, .int .i64 z5, .int .i64 z6, .int .i64 z7] ∧
    (W.cell? ⟨r, 3, none⟩ = some (.int .i64 z0) ∧ W.cell? ⟨r, 4, none⟩ = some (.int .i64 z1) ∧ W.cell? ⟨r, 5, none⟩ = some (.int .i64 z2) ∧ W.cell? ⟨r, 6, none⟩ = some (.int .i64 z3) ∧ W.cell? ⟨r, 7, none⟩ = some (.int .i64 z4) ∧ W.cell? ⟨r, 8, none⟩ = some (.int .i64 z5) ∧ W.cell? ⟨r, 9, none⟩ = some (.int .i64 z6) ∧ W.cell? ⟨r, 10, none⟩ = some (.int .i64 z7)) ∧ W.cell? ⟨r, 11, none⟩ = some (.int .i64 0) ∧ W.cell? ⟨r, 12, none⟩ = some (.int .i64 m) := by
  obtain ⟨z0, z1, z2, z3, z4, z5, z6, z7, h1, h⟩ := h
  refine ⟨z0, z1, z2, z3, z4, z5, z6, z7, h1, ⟨?_, ?_, ?_, ?_, ?_, ?_, ?_, ?_⟩, ?_, ?_⟩ <;> rw [cell_of_row W r _ _ _ _ h] <;> rfl

set_option maxRecDepth 20000 in
set_option maxHeartbeats 4000000 in
theorem tell_yes (g r : Nat) (x k n m : Int) (nm cd : ByteArray) (v me : Int) (w : World) (c1 : w.cell? ⟨g, 1, none⟩ = some (.int .i64 x)) (c4 : w.cell? ⟨g, 4, none⟩ = some (.pointer (some ⟨r, 0, none⟩))) (hs : Std w r nm v cd me) :
    Calls Tryz.prog 14 #[.pointer (some ⟨g, 0, none⟩), .int .i64 k, .int .i64 n, .int .i64 m] w (Told w (quoV x k n m (repV [(0, me)])).1 (quoV x k n m (repV [(0, me)])).2.1 (quoV x k n m (repV [(0, me)])).2.2.1 (quoV x k n m (repV [(0, me)])).2.2.2.1 (quoV x k n m (repV [(0, me)])).2.2.2.2 (if quoE x k n m (repV [(0, me)]) = 0 then [(0, me)] else []) (quoE x k n m (repV [(0, me)]))) := by
  obtain ⟨z0, z1, z2, z3, z4, z5, z6, z7, hz, ⟨s3, s4, s5, s6, s7, s8, s9, s10⟩, s11, s12⟩ := std_all hs
  have hb0 := below_new w (.cells #[.int .i64 0, .int .i64 0, .int .i64 0, .int .i64 0, .int .i64 0] 45)
  have MK := hide (fun W => Quote.make_any x k n m (repV [(0, me)]) #[.int .i64 z0, .int .i64 z1, .int .i64 z2, .int .i64 z3, .int .i64 z4, .int .i64 z5, .int .i64 z6, .int .i64 z7] W hz.symm (repV_len _))
  have HE := quoE_is x k n m (repV [(0, me)])
  have HV := hide (fun h => quoV_no (x := x) (k := k) (n := n) (m := m) (xs := repV [(0, me)]) h)
  unfold quoC at MK
  generalize quoV x k n m (repV [(0, me)]) = q at *
  generalize quoE x k n m (repV [(0, me)]) = E at *
  obtain ⟨q0, q1, q2, q3, q4⟩ := q
  simp only [] at MK ⊢
  have HL0 := hide (fun (h : E = 0) => show (if E = 0 then [((0 : Int), me)] else []) = [(0, me)] from if_pos h)
  have HL1 := hide (fun (h : ¬ E = 0) => show (if E = 0 then [((0 : Int), me)] else []) = [] from if_neg h)
  generalize (if E = 0 then [((0 : Int), me)] else []) = L at *
  have HGR := hide (And.intro (World.block_lt_of_cell? w _ c1) hs.lt)
  have HCW := hide (And.intro c4 (And.intro s11 s12))
  have HK0 := hide (blk_new w (.cells #[.int .i64 0, .int .i64 0, .int .i64 0, .int .i64 0, .int .i64 0] 45))
  have HB0 := hide hb0
  have HNC : Hid (∀ W, KB (w.alloc (.cells #[.int .i64 0, .int .i64 0, .int .i64 0, .int .i64 0, .int .i64 0] 45)) W → (W.cell? ⟨g, 1, none⟩ = some (.int .i64 x) ∧ W.cell? ⟨g, 4, none⟩ = some (.pointer (some ⟨r, 0, none⟩)))
      ∧ (W.cell? ⟨r, 3, none⟩ = some (.int .i64 z0) ∧ W.cell? ⟨r, 4, none⟩ = some (.int .i64 z1) ∧ W.cell? ⟨r, 5, none⟩ = some (.int .i64 z2) ∧ W.cell? ⟨r, 6, none⟩ = some (.int .i64 z3) ∧ W.cell? ⟨r, 7, none⟩ = some (.int .i64 z4) ∧ W.cell? ⟨r, 8, none⟩ = some (.int .i64 z5) ∧ W.cell? ⟨r, 9, none⟩ = some (.int .i64 z6) ∧ W.cell? ⟨r, 10, none⟩ = some (.int .i64 z7))) := fun W h => by
    have hk : KB w W := below_on hb0 h
    exact ⟨⟨kb_cell hk c1, kb_cell hk c4⟩, kb_cell hk s3, kb_cell hk s4, kb_cell hk s5, kb_cell hk s6, kb_cell hk s7, kb_cell hk s8, kb_cell hk s9, kb_cell hk s10⟩
  clear hs hz hb0 s3 s4 s5 s6 s7 s8 s9 s10 s11 s12
  have hc := HNC.out _ (kb_refl _)
  obtain ⟨⟨d1, d4⟩, t3, t4, t5, t6, t7, t8, t9, t10⟩ := hc
  clear c1 c4
  go_enter Tryz.func14, Tryz.ntmps14
  go_wp2_with (fail)
  obtain ⟨w0, hw0⟩ : ∃ w0, w0 = w.alloc (.cells #[.int .i64 0, .int .i64 0, .int .i64 0, .int .i64 0, .int .i64 0] 45) := ⟨_, rfl⟩
  rw [← hw0] at HNC HB0 HK0 d1 d4 t3 t4 t5 t6 t7 t8 t9 t10 ⊢
  have HSZ : Hid (w0.heap.size = w.heap.size + 1) := hide (by rw [hw0]; simp)
  clear hw0
  have hK0 : KB w0 w0 := kb_refl _
  go_cut [11, 12] (fun s11 s12 w' => ∃ gs : Nat, s11 = .pointer (some ⟨gs, 0, none⟩) ∧ s12 = errV 96 E ∧ Hid (w0.heap.size ≤ gs) ∧ Hid (QL w0 gs q0 q1 q2 q3 q4 w'))
  case first =>
    go_region_held3 (fun W => ((W.cell? ⟨g, 1, none⟩ = some (.int .i64 x) ∧ W.cell? ⟨g, 4, none⟩ = some (.pointer (some ⟨r, 0, none⟩)))
      ∧ (W.cell? ⟨r, 3, none⟩ = some (.int .i64 z0) ∧ W.cell? ⟨r, 4, none⟩ = some (.int .i64 z1) ∧ W.cell? ⟨r, 5, none⟩ = some (.int .i64 z2) ∧ W.cell? ⟨r, 6, none⟩ = some (.int .i64 z3) ∧ W.cell? ⟨r, 7, none⟩ = some (.int .i64 z4) ∧ W.cell? ⟨r, 8, none⟩ = some (.int .i64 z5) ∧ W.cell? ⟨r, 9, none⟩ = some (.int .i64 z6) ∧ W.cell? ⟨r, 10, none⟩ = some (.int .i64 z7))) ∧ KB w0 W)
      (exact kb_S (by with_reducible repeat (first | assumption | apply kb_drew | apply kb_alloc | apply kb_set0)) (fun h => HNC.out _ h))
      ((go_at_call 58; refine (MK.out _).mono ?_; rintro e w5 ⟨rfl, hb5⟩; have hK5 : KB w0 w5 := kb_below (by with_reducible repeat (first | assumption | apply kb_drew | apply kb_alloc)) hb5; have hc5 := cell_pass hb5 w0.heap.size; have hf5 := froz_pass hb5 w0.heap.size))
    all_goals
      go_wp2
      go_meet
      exact ⟨_, rfl, rfl, hide (by first | exact Below.size hK5 | exact Nat.le_refl _), hide (by with_reducible first | exact ql_alloc hK5 | exact ql_drew (ql_alloc hK5) | exact ql_1 hb5 hK5 | exact ql_2 hb5 hK5 | exact ql_3 hb5 hK5 | exact ql_4 hb5 hK5)⟩
  case rest =>
  obtain ⟨gs, rfl, rfl, HGS, HQL⟩ := hcut
  have HKW := hide (blk_below HK0.out HQL.out.2)
  have HBW := hide (below_on HB0.out HQL.out.2)
  have hT : TL w g r gs (.pointer (some ⟨r, 0, none⟩)) me q0 q1 q2 q3 q4 wc := ⟨HBW.out, ⟨_, _, _, _, _, HKW.out⟩, by have h1 := HGS.out; have h2 := HSZ.out; omega, HQL.out.1, HGR.out, HCW.out.1, HCW.out.2.1, HCW.out.2.2⟩
  clear HNC HB0 HK0 d1 d4 t3 t4 t5 t6 t7 t8 t9 t10 hK0 HSZ MK HGR HCW
  rcases HE with rfl | rfl
  · have E0 := hide (HL0.out rfl)
    have l1 := blk_lt HKW.out
    have l2 := Nat.ne_of_lt l1
    have l3 := Nat.ne_of_gt l1
    clear HL0 HL1 HV HKW HBW HQL HGS
    obtain ⟨⟨a0, a1, a2, a3, a4⟩, ⟨b4, b11, b12⟩, ⟨f0, f1, f2, f3, f4⟩, ⟨k0, k1, k2, k3, k4⟩⟩ := tl_S hT
    rw [errV_zero]
    go_wp2_with (fail)
    go_region_held3 (fun W => (W.cell? ⟨gs, 0, none⟩ = some (.int .i64 q0) ∧ W.cell? ⟨gs, 1, none⟩ = some (.int .i64 q1) ∧ W.cell? ⟨gs, 2, none⟩ = some (.int .i64 q2) ∧ W.cell? ⟨gs, 3, none⟩ = some (.int .i64 q3) ∧ W.cell? ⟨gs, 4, none⟩ = some (.int .i64 q4))
      ∧ (W.cell? ⟨g, 4, none⟩ = some (.pointer (some ⟨r, 0, none⟩)) ∧ W.cell? ⟨r, 11, none⟩ = some (.int .i64 0) ∧ W.cell? ⟨r, 12, none⟩ = some (.int .i64 me))
      ∧ (W.frozen? ⟨w.heap.size, 0, none⟩ = false ∧ W.frozen? ⟨w.heap.size, 1, none⟩ = false ∧ W.frozen? ⟨w.heap.size, 2, none⟩ = false ∧ W.frozen? ⟨w.heap.size, 3, none⟩ = false ∧ W.frozen? ⟨w.heap.size, 4, none⟩ = false)
      ∧ (W.cell? ⟨w.heap.size, 0, none⟩ = some (Image.cellAt W w.heap.size 0) ∧ W.cell? ⟨w.heap.size, 1, none⟩ = some (Image.cellAt W w.heap.size 1) ∧ W.cell? ⟨w.heap.size, 2, none⟩ = some (Image.cellAt W w.heap.size 2) ∧ W.cell? ⟨w.heap.size, 3, none⟩ = some (Image.cellAt W w.heap.size 3) ∧ W.cell? ⟨w.heap.size, 4, none⟩ = some (Image.cellAt W w.heap.size 4)))
      (exact tl_S (by with_reducible repeat (first | assumption | apply tl_drew | apply tl_alloc | apply tl_five)))
      (fail)
    all_goals
      clear a0 a1 a2 a3 a4 b4 b11 b12 f0 f1 f2 f3 f4 k0 k1 k2 k3 k4
      go_wp2
      refine bodyPost_ret (v := .tuple #[.agg #[.int .i64 q0, .int .i64 q1, .int .i64 q2, .int .i64 q3, .int .i64 q4], .slice (some ⟨wc.heap.size, 0, none⟩) 1 1, .nilIface]) ?_ rfl (by rw [E0.out]; exact fin_told (by with_reducible first | exact fin_drew (fin_a hT) | exact fin_drew (fin_b hT) | exact fin_a hT | exact fin_b hT) rfl)
      exact results_tell (p := 8) (x := 9) (y := 10) rfl _ _ w.heap.size _ _ _ rfl rfl rfl (And.left (And.right (by with_reducible first | exact fin_drew (fin_a hT) | exact fin_drew (fin_b hT) | exact fin_a hT | exact fin_b hT : Fin w wc.heap.size me q0 q1 q2 q3 q4 _))) rfl
  · have E0 := hide (HL1.out (by decide))
    have EQ := HV.out (by decide)
    simp only [Prod.mk.injEq] at EQ
    obtain ⟨rfl, rfl, rfl, rfl, rfl⟩ := EQ
    clear HL0 HL1 HV hT HQL HGS
    obtain ⟨k0, k1, k2, k3, k4⟩ := quin_cells HKW.out
    obtain ⟨f0, f1, f2, f3, f4⟩ := quin_free HKW.out
    rw [errV_one]
    go_wp2
    rw [quin_set HKW.out]
    refine bodyPost_ret (v := .tuple #[.agg #[.int .i64 0, .int .i64 0, .int .i64 0, .int .i64 0, .int .i64 0], .slice none 0 0, .iface 96 (.int .i64 1)]) ?_ rfl (by rw [E0.out]; exact told_no rfl (below_setRow HBW.out (Nat.le_refl _) _))
    exact results_tell (p := 8) (x := 9) (y := 10) rfl _ _ w.heap.size _ _ _ rfl rfl rfl (setRow_heap _ _ _ _ _ _ HKW.out) rfl
theorem tellLaw : TellLaw Dvc := by
  intro p S d k n m w B h hh
  obtain ⟨g, cp, sp, rp, SC, SS, R, rfl, rfl, hd, hok⟩ := h
  obtain ⟨c0, c1, c2, c3, c4⟩ := aft_cells (aft_of hd)
  rcases hd.2.2.2.1 with ⟨hon, rfl, hR⟩ | ⟨r, hon, rfl, hR, hBr, hstd⟩
  · have e1 : telD d k n m = 6 := by unfold telD; rw [hon]; rfl
    have e2 : telQ d k n m = (0, 0, 0, 0, 0) := by unfold telQ; rw [hon]; rfl
    have e3 : telL d k n m = [] := by unfold telL; rw [e1]; rfl
    rw [e1, e2, e3]
    exact tell_no g k n m w c4
  · have e1 : telD d k n m = quoE d.x k n m (repV [(0, meaV d.nm d.v d.cd)]) := by unfold telD; rw [hon]; rfl
    have e2 : telQ d k n m = quoV d.x k n m (repV [(0, meaV d.nm d.v d.cd)]) := by unfold telQ; rw [hon]; rfl
    have e3 : telL d k n m = if quoE d.x k n m (repV [(0, meaV d.nm d.v d.cd)]) = 0 then [(0, meaV d.nm d.v d.cd)] else [] := by unfold telL; rw [e1]; rfl
    rw [e1, e2, e3]
    exact tell_yes g r d.x k n m d.nm d.cd d.v _ w c1 c4 hstd
theorem field_image (nm cd : ByteArray) (v p a : Int) (W : World) : Sem.run Tryz.prog (Instr.field 27 (.agg #[.string nm, .int .i64 v, .string cd, .int .i64 p, .int .i64 a]) 0) W = .ok (.agg #[.string nm, .int .i64 v, .string cd]) W := by kernel_rfl
theorem at_idx (t : St) (i : Bool) : atL t (idx i) = t.at i ∧ atE (idx i) = 0 := by cases i <;> exact ⟨rfl, rfl⟩
/-- What Start leaves. -/
def Begun (w : World) (B g : Nat) (F : Nat → Prop) (b : Bool) (d : DS) (e : Ending) (w' : World) : Prop := e = .returned (.bool b) ∧ Left w B g F d w'
/-- A slot that was laid. -/
def SL (w : World) (gs : Nat) (nm : ByteArray) (v : Int) (cd : ByteArray) (p a : Int) (full : Bool) (tr : Int) (good : Bool) (W : World) : Prop :=
  W.heap[gs]? = some (.cells #[.string nm, .int .i64 v, .string cd, .int .i64 p, .int .i64 a, .bool full, .int .i64 tr, .bool good] 106) ∧ KB w W
def zSl : Obj := .cells #[.string { data := #[] }, .int .i64 0, .string { data := #[] }, .int .i64 0, .int .i64 0, .bool false, .int .i64 0, .bool false] 106
section Sl
variable {w w5 w6 W : World} {gs : Nat} {nm cd : ByteArray} {v p a tr : Int} {full good : Bool}
theorem sl_drew (h : SL w gs nm v cd p a full tr good W) : SL w gs nm v cd p a full tr good W.drew := ⟨h.1, kb_drew h.2⟩
theorem sl_alloc (hk : KB w w6) : SL w w6.heap.size nm v cd p a full tr good (w6.alloc (.cells #[.string nm, .int .i64 v, .string cd, .int .i64 p, .int .i64 a, .bool full, .int .i64 tr, .bool good] 106)) := ⟨blk_new _ _, kb_alloc hk⟩
theorem sl_store (h : w6.heap[gs]? = some zSl) (hk : KB w w6) (hg : w.heap.size ≤ gs) : SL w gs nm v cd p a full tr good ((((((((w6.setCell ⟨gs, 0, none⟩ (.string nm)).setCell ⟨gs, 1, none⟩ (.int .i64 v)).setCell ⟨gs, 2, none⟩ (.string cd)).setCell ⟨gs, 3, none⟩ (.int .i64 p)).setCell ⟨gs, 4, none⟩ (.int .i64 a)).setCell ⟨gs, 5, none⟩ (.bool full)).setCell ⟨gs, 6, none⟩ (.int .i64 tr)).setCell ⟨gs, 7, none⟩ (.bool good)) := by
  unfold zSl at h
  exact ⟨Slot.r8 h, kb_set hg (kb_set hg (kb_set hg (kb_set hg (kb_set hg (kb_set hg (kb_set hg (kb_set hg hk)))))))⟩
theorem sl_1 (h5 : w.heap.size ≤ w5.heap.size) (hb : Below (w5.alloc (.cells #[.string { data := #[] }, .int .i64 0, .string { data := #[] }, .int .i64 0, .int .i64 0, .bool false, .int .i64 0, .bool false] 106)).heap.size (w5.alloc (.cells #[.string { data := #[] }, .int .i64 0, .string { data := #[] }, .int .i64 0, .int .i64 0, .bool false, .int .i64 0, .bool false] 106)) w6) (hk : KB w w6) :
    SL w w5.heap.size nm v cd p a full tr good ((((((((w6.setCell ⟨w5.heap.size, 0, none⟩ (.string nm)).setCell ⟨w5.heap.size, 1, none⟩ (.int .i64 v)).setCell ⟨w5.heap.size, 2, none⟩ (.string cd)).setCell ⟨w5.heap.size, 3, none⟩ (.int .i64 p)).setCell ⟨w5.heap.size, 4, none⟩ (.int .i64 a)).setCell ⟨w5.heap.size, 5, none⟩ (.bool full)).setCell ⟨w5.heap.size, 6, none⟩ (.int .i64 tr)).setCell ⟨w5.heap.size, 7, none⟩ (.bool good)) := sl_store (blk_below (w := w5.alloc zSl) (blk_new w5 _) hb) hk h5
theorem sl_2 (h5 : w.heap.size ≤ w5.heap.size) (hb : Below (w5.drew.alloc (.cells #[.string { data := #[] }, .int .i64 0, .string { data := #[] }, .int .i64 0, .int .i64 0, .bool false, .int .i64 0, .bool false] 106)).heap.size (w5.drew.alloc (.cells #[.string { data := #[] }, .int .i64 0, .string { data := #[] }, .int .i64 0, .int .i64 0, .bool false, .int .i64 0, .bool false] 106)) w6) (hk : KB w w6) :
    SL w w5.heap.size nm v cd p a full tr good ((((((((w6.setCell ⟨w5.heap.size, 0, none⟩ (.string nm)).setCell ⟨w5.heap.size, 1, none⟩ (.int .i64 v)).setCell ⟨w5.heap.size, 2, none⟩ (.string cd)).setCell ⟨w5.heap.size, 3, none⟩ (.int .i64 p)).setCell ⟨w5.heap.size, 4, none⟩ (.int .i64 a)).setCell ⟨w5.heap.size, 5, none⟩ (.bool full)).setCell ⟨w5.heap.size, 6, none⟩ (.int .i64 tr)).setCell ⟨w5.heap.size, 7, none⟩ (.bool good)) := sl_store (blk_below (w := w5.drew.alloc zSl) (blk_new w5 _) hb) hk h5
theorem sl_3 (h5 : w.heap.size ≤ w5.heap.size) (hb : Below (w5.alloc (.cells #[.string { data := #[] }, .int .i64 0, .string { data := #[] }, .int .i64 0, .int .i64 0, .bool false, .int .i64 0, .bool false] 106)).drew.heap.size (w5.alloc (.cells #[.string { data := #[] }, .int .i64 0, .string { data := #[] }, .int .i64 0, .int .i64 0, .bool false, .int .i64 0, .bool false] 106)).drew w6) (hk : KB w w6) :
    SL w w5.heap.size nm v cd p a full tr good ((((((((w6.setCell ⟨w5.heap.size, 0, none⟩ (.string nm)).setCell ⟨w5.heap.size, 1, none⟩ (.int .i64 v)).setCell ⟨w5.heap.size, 2, none⟩ (.string cd)).setCell ⟨w5.heap.size, 3, none⟩ (.int .i64 p)).setCell ⟨w5.heap.size, 4, none⟩ (.int .i64 a)).setCell ⟨w5.heap.size, 5, none⟩ (.bool full)).setCell ⟨w5.heap.size, 6, none⟩ (.int .i64 tr)).setCell ⟨w5.heap.size, 7, none⟩ (.bool good)) := sl_store (blk_below (w := (w5.alloc zSl).drew) (blk_new w5 _) hb) hk h5
theorem kb_on {X : World} (hb : Below X.heap.size X w5) (h : KB w5 w6) : Below X.heap.size X w6 := below_on hb h
end Sl

set_option maxRecDepth 20000 in
set_option maxHeartbeats 4000000 in
theorem start_any (g : Nat) (cp sp rp : Value) (SC SS R : Nat → Prop) (d : DS) (w : World) (B : Nat) (h : DIs w B g cp sp rp SC SS R d) (hok : OkD d) (hh : Image.Has w) (hB : B ≤ w.heap.size) :
    Calls Tryz.prog 8 #[.pointer (some ⟨g, 0, none⟩)] w (Begun w B g (feet g SC SS R) (trialD d) (staD d)) := by
  have HSS := hide (fun k hk => (Slot.core.has h.2.2.1 k hk).2)
  have PK := hide (fun (W : World) (hk : KB w W) => Slot.pickLaw sp SS d.t W B (h.below hk).2.2.1)
  have AT := hide (fun (W : World) (hk : KB w W) => Slot.atLaw sp SS d.t (idx (pickT d.t)) W B (h.below hk).2.2.1)
  have ST := hide (fun (W : World) (hk : KB w W) => Slot.startLaw sp SS d.t W B (h.below hk).2.2.1 (Nat.le_trans hB (Below.size hk)))
  have HHS := hide (fun (W W' : World) (hk : KB w W) (ho : Only SS W W') => has_slt (hh.below hk) (h.below hk).2.2.1 ho)
  have HA := hide (fun (W : World) (hk : KB w W) => aft_below (aft_of h) hk)
  have HNC := hide (fun (W : World) (hk : KB w W) => (aft_cells (aft_below (aft_of h) hk)).2.2.2.1)
  rw [(at_idx d.t (pickT d.t)).1, (at_idx d.t (pickT d.t)).2, errV_zero] at AT
  have hIM : imgE (d.t.at (pickT d.t)).s.nm (d.t.at (pickT d.t)).s.v (d.t.at (pickT d.t)).s.cd = 0 := by
    obtain ⟨_, _, h3, _, n0, m0, _, _, _, _, _, g6, _⟩ := hok
    have hf := (ok_start h3).run
    rw [start_r, (start_at d.t (pickT d.t)).2] at hf
    exact (g6 _ hf).2
  have HOS := hide (okD_sta hok)
  have HSD := hide (show staD d = { d with t := startT d.t, on := true, nm := (d.t.at (pickT d.t)).s.nm, v := (d.t.at (pickT d.t)).s.v, cd := (d.t.at (pickT d.t)).s.cd } from rfl)
  have HTR := hide (show trialD d = !(d.t.at (pickT d.t)).good from rfl)
  have MS := hide (fun (W : World) (hW : Image.Has W) => measured_any (d.t.at (pickT d.t)).s.nm (d.t.at (pickT d.t)).s.cd (d.t.at (pickT d.t)).s.v W hIM (by have := (imgE_zero hIM).2.2.2.1; omega) (by have := (imgE_zero hIM).2.2.2.2.1; omega) hW)
  have HBB := hide hB
  have HGL := hide (blk_lt h.1)
  obtain ⟨gp, hgp, _⟩ := h.2.2.1
  subst hgp
  have c3 := HNC.out _ (kb_refl _)
  clear h hok hh hB hIM
  generalize staD d = sd at *
  generalize trialD d = td at *
  generalize startT d.t = st at *
  generalize hl : d.t.at (pickT d.t) = l at *
  clear hl
  obtain ⟨⟨nm, v, cd, p, a⟩, full, tr, good⟩ := l
  unfold slA at AT
  unfold sgA at ST
  simp only [] at AT ST MS HSD HTR
  have FI := field_image nm cd v p a
  have hK0 : KB w w := kb_refl _
  generalize idx (pickT d.t) = ix at *
  go_enter Tryz.func8, Tryz.ntmps8
  go_wp2_with (fail)
  go_cut [3, 4] (fun s3 s4 w' => ∃ gs : Nat, s3 = .pointer (some ⟨gs, 0, none⟩) ∧ Hid (w.heap.size ≤ gs) ∧ Hid (SL w gs nm v cd p a full tr good w'))
  case first =>
    go_region_held3 (fun W => W.cell? ⟨g, 3, none⟩ = some (.pointer (some ⟨gp, 0, none⟩)) ∧ KB w W)
      (exact kb_S (by with_reducible repeat (first | assumption | apply kb_drew | apply kb_alloc | apply kb_set0 | apply kb_set (by assumption))) (fun h => HNC.out _ h))
      (first | (go_at_call 49; refine (PK.out _ (by with_reducible repeat (first | assumption | apply kb_drew | apply kb_alloc))).mono ?_; rintro e w5 ⟨rfl, hb5⟩; have hK5 : KB w w5 := kb_below (by with_reducible repeat (first | assumption | apply kb_drew | apply kb_alloc)) hb5; have hl5 := Below.size hK5; have hc5 := cell_pass hb5 w.heap.size; have hf5 := froz_pass hb5 w.heap.size; have q3 := HNC.out _ hK5) | (go_at_call 48; refine (AT.out _ (by with_reducible repeat (first | assumption | apply kb_drew | apply kb_alloc))).mono ?_; rintro e w6 ⟨rfl, hb6⟩; have hK6 : KB w w6 := kb_below (by with_reducible repeat (first | assumption | apply kb_drew | apply kb_alloc)) hb6; have h56 : KB w5 w6 := kb_below (by with_reducible repeat (first | exact kb_refl _ | apply kb_drew | apply kb_alloc)) hb6; have hb56 := kb_on hb5 h56; have hc6 := cell_pass hb56 w.heap.size; have hf6 := froz_pass hb56 w.heap.size; have hd6 := cell_pass hb6 w5.heap.size; have he6 := froz_pass hb6 w5.heap.size; have r3 := HNC.out _ hK6))
    all_goals
      go_wp2
      go_meet
      exact ⟨_, rfl, hide (by first | exact Below.size hK6 | exact hl5 | exact Nat.le_refl _), hide (by with_reducible first | exact sl_alloc hK6 | exact sl_drew (sl_alloc hK6) | exact sl_1 (Nat.le_refl _) hb56 hK6 | exact sl_2 (Nat.le_refl _) hb56 hK6 | exact sl_3 (Nat.le_refl _) hb56 hK6 | exact sl_1 hl5 hb6 hK6 | exact sl_2 hl5 hb6 hK6 | exact sl_3 hl5 hb6 hK6)⟩
  case rest =>
  obtain ⟨gs, rfl, HGS, HSL⟩ := hcut
  have HAw := hide (HA.out _ HSL.out.2)
  have d3 := HNC.out _ HSL.out.2
  have hg : g < w.heap.size := HGL.out
  have hne : ¬ gs = g := by have := HGS.out; omega
  have hne' : ¬ g = gs := by have := HGS.out; omega
  clear hK0 c3 PK AT HA HNC HGL
  go_wp2_with (fail)
  refine (ST.out _ HSL.out.2).mono ?_
  rintro e w2 ⟨SS', rfl, hs2, ho2, hf2⟩
  have HG2 := hide (ho2.heap HSL.out.1 (fun hk => absurd (HSS.out _ hk) (by have := HGS.out; omega)))
  have HA2 := hide (aft_slt HAw.out hs2 ho2 hf2)
  have HH2 := hide (HHS.out _ _ HSL.out.2 ho2)
  clear hs2 ho2 hf2 HAw HSL HHS d3 ST HSS
  go_wp2_with (fail)
  refine (MS.out _ HH2.out).mono ?_
  rintro e w3 ⟨r, rfl, hr, hstd, hb3⟩
  have HA3 := hide (aft_below HA2.out hb3)
  have HG3 := hide (blk_below HG2.out hb3)
  have HR : Hid (B ≤ r ∧ w.heap.size ≤ r ∧ ¬ feet g SC SS' R r) := by
    have h1 := HA2.out.2.1.size
    have h2 := HBB.out
    refine ⟨by omega, by omega, fun hk => ?_⟩
    have h3 := (HA2.out.1.has r hk).2
    omega
  have HA4 := hide (aft_run HA3.out HR.out.1 HR.out.2.1 HR.out.2.2 hstd)
  obtain ⟨c0, c1, c2, c3, c4⟩ := aft_cells HA3.out
  obtain ⟨f0, f1, f2, f3, f4⟩ := quin_free HA3.out.1.1
  have s7 : w3.cell? ⟨gs, 7, none⟩ = some (.bool good) := by rw [cell_of_row w3 gs _ _ _ _ HG3.out]; rfl
  clear hr hstd hb3 HA2 HG2 HH2 MS HR HA3 HG3 FI
  go_wp2
  go_ret
  exact ⟨by rw [HTR.out]; rfl, by rw [HSD.out]; exact aft_left HA4.out (by have := HOS.out; rw [HSD.out] at this; exact this)⟩
theorem startLaw : StartLaw Dvc := by
  intro p S d w B h hh hB
  obtain ⟨g, cp, sp, rp, SC, SS, R, rfl, rfl, hd, hok⟩ := h
  refine (start_any g cp sp rp SC SS R d w B hd hok hh hB).mono ?_
  rintro e w' ⟨rfl, S', h1, h2, h3⟩
  exact ⟨S', rfl, h1, h2, h3⟩
end Go.Proofs.YtojdaifnljghkabGreatDoor.Device
