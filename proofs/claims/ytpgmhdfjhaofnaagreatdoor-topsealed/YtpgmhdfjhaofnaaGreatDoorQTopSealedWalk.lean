/-
  The walk of stairtop.TopSealed: it returns true, and memory that was there stays as it was.
-/
import Derived.Test.YtpgmhdfjhaofnaaGreatDoorQDeviceOb
import Derived.Test.YtpgmhdfjhaofnaaGreatDoorQSealedMath
import Derived.Test.YtpgmhdfjhaofnaaGreatDoorQEventLaw
import Derived.Test.YtpgmhdfjhaofnaaGreatDoorQBox1
import Derived.Test.YtpgmhdfjhaofnaaGreatDoorPack1
import Derived.Test.YtpgmhdfjhaofnaaGreatDoorPack2
import Derived.Test.YtpgmhdfjhaofnaaGreatDoorQTopOne
import Derived.Test.YtpgmhdfjhaofnaaGreatDoorQCells
namespace Go.Proofs.YtpgmhdfjhaofnaaGreatDoor.TopSealed
open Go.ChangeShapes Go.WideShapes Go.ChangeAt Go.RowKit
open Go.Proofs.YtpgmhdfjhaofnaaGreatDoor.M Go.Proofs.YtpgmhdfjhaofnaaGreatDoor.Device Go.Proofs.YtpgmhdfjhaofnaaGreatDoor.Image
set_option linter.unusedVariables false

theorem errV_no {T : TypeId} {k : Int} (h : ¬ k = 0) : errV T k = .iface T (.int .i64 k) := if_neg h
def imO (nm : ByteArray) (v : Int) (cd : ByteArray) : Obj := .cells #[.string nm, .int .i64 v, .string cd] 23
theorem blk_of {w0 W : World} {B b : Nat} {hB : B ≤ b} {o : Obj} {its : List (Thing B)} (h : M.Sep w0 B its W) (hm : blkI B b hB o ∈ its) : W.heap[b]? = some o := h.ok _ hm
theorem mkS_form (x k : Int) (nm : ByteArray) (v : Int) (cd : ByteArray) : ∃ a b c d e, mkS x k nm v cd = #[.string a, .int .i64 b, .string c, .int .i64 d, .int .i64 e] := by
  unfold mkS
  split
  · exact ⟨_, _, _, _, _, rfl⟩
  · exact ⟨_, _, _, _, _, rfl⟩
theorem one_bankS (m : Int) : (bankC (repV [(0, m)])).size = 8 := by rw [bankC_size]; rfl

set_option maxRecDepth 20000 in
set_option maxHeartbeats 8000000 in
theorem walk {Dvc : World → Nat → Value → (Nat → Prop) → DS → Prop} (LD : Core Dvc) (UL : UpdateLaw Dvc) (SL : StartLaw Dvc) (TL : TellLaw Dvc) (RL : RunsLaw Dvc) (RP : Event.ReplayLaw)
    (x : Int) (n1 c1 : ByteArray) (v1 : Int) (n2 c2 : ByteArray) (v2 : Int) (k sec : Int) (w : World) (hn1 : n1.size ≤ 140737488351232) (hc1 : c1.size ≤ 140737488351232) (hn2 : n2.size ≤ 140737488351232) (hc2 : c2.size ≤ 140737488351232) (hh : Has w) (hg : As.Handle w) :
    Calls Tryz.prog 5 #[.int .i64 x, .agg #[.string n1, .int .i64 v1, .string c1], .agg #[.string n2, .int .i64 v2, .string c2], .int .i64 k, .int .i64 sec] w fun e w' => e = .returned (.bool true) ∧ Below w.heap.size w w' := by
  have HLD := hide LD
  have HUL := hide UL
  have HSL := hide SL
  have HTL := hide TL
  have HRL := hide RL
  have HRP := hide RP
  have HH := hide (fun (W : World) (h : Below w.heap.size w W) => hh.below h)
  have HG := hide (fun (W : World) (h : Below w.heap.size w W) => hg.below h)
  have ON := hide (fun (W : World) (h : Below w.heap.size w W) => Top.one_any W (hh.below h))
  have M1 := hide (fun (W : World) (h : Below w.heap.size w W) => Sign.make_any x k v1 n1 c1 W hn1 hc1 (hh.below h))
  have M2 := hide (fun (W : World) (h : Below w.heap.size w W) => Sign.make_any x k v2 n2 c2 W hn2 hc2 (hh.below h))
  have NR := hide (fun (W : World) => newer_any n2 c2 n1 c1 v2 v1 W hn2 hc2 hn1 hc1)
  have HZ1 := hide (show szS (sgO x k n1 v1 c1) from ⟨hn1, hc1⟩)
  have HZ2 := hide (show szS (sgO x k n2 v2 c2) from ⟨hn2, hc2⟩)
  unfold imgC at M1 M2 NR
  have HS0 : Hid (∃ hx : w.heap.size ≤ w.heap.size + 1, M.Sep w w.heap.size [blkI w.heap.size (w.heap.size + 1) hx (.cells #[.string n2, .int .i64 v2, .string c2] 23), blkI w.heap.size w.heap.size (Nat.le_refl _) (.cells #[.string n1, .int .i64 v1, .string c1] 23)] ((w.alloc (.cells #[.string n1, .int .i64 v1, .string c1] 23)).alloc (.cells #[.string n2, .int .i64 v2, .string c2] 23))) := by
    have e1 := (Sep.nil (Below.refl w.heap.size w) (Nat.le_refl _)).allocz (Nat.le_refl _) (.cells #[.string n1, .int .i64 v1, .string c1] 23)
    have hz := e1.hb
    have e2 := e1.allocz hz (.cells #[.string n2, .int .i64 v2, .string c2] 23)
    have key : ∀ ib, ib = (w.alloc (.cells #[.string n1, .int .i64 v1, .string c1] 23)).heap.size → ∃ hx : w.heap.size ≤ ib, M.Sep w w.heap.size [blkI w.heap.size ib hx (.cells #[.string n2, .int .i64 v2, .string c2] 23), blkI w.heap.size w.heap.size (Nat.le_refl _) (.cells #[.string n1, .int .i64 v1, .string c1] 23)] ((w.alloc (.cells #[.string n1, .int .i64 v1, .string c1] 23)).alloc (.cells #[.string n2, .int .i64 v2, .string c2] 23)) := by
      rintro ib rfl
      exact ⟨hz, e2⟩
    exact key _ (by simp)
  clear LD UL SL TL RL RP hn1 hc1 hn2 hc2 hh hg
  obtain ⟨hx1, hS0⟩ := HS0.out
  clear HS0
  have HS0 := hide hS0
  clear hS0
  go_enter Tryz.func5, Tryz.ntmps5
  go_wp2_with (fail)
  refine (ON.out _ HS0.out.lo).mono ?_
  rintro e w1 ⟨rfl, hb1⟩
  have HS1 := hide (HS0.out.below hb1)
  clear hb1 HS0 ON
  cases hs : secB x with
  | false =>
    have PB := hide (fun W => Key.public_no x W hs)
    go_wp2_with (fail)
    refine (PB.out _).mono ?_
    rintro e w6 ⟨rfl, hw⟩
    rw [hw]
    clear hw
    go_wp2
    go_ret
    exact ⟨rfl, HS1.out.lo⟩
  | true =>
  have PB := hide (fun W => Key.public_ok x W hs)
  have HSX := hide hs
  clear hs
  have hi1 : w1.heap[w.heap.size]? = some (.cells #[.string n1, .int .i64 v1, .string c1] 23) := HS1.out.p1
  obtain ⟨r0, r1, r2⟩ := tri_cells hi1
  clear hi1
  go_wp2_with (fail)
  refine (PB.out _).mono ?_
  rintro e w6 ⟨rfl, hw⟩
  rw [hw]
  clear hw PB w6
  by_cases hE1 : sgnE x k n1 v1 c1 = 0
  · rw [mkS_ok hE1, hE1, errV_zero] at M1
    unfold sgnC at M1
    have NW := hide (fun (W : World) (its : List (Thing w.heap.size)) (h : M.Sep w w.heap.size its W) => (show Calls Tryz.prog 7 #[.int .i64 (pwZ 64 x), .int .i64 x, .agg #[.string n1, .int .i64 v1, .string c1, .int .i64 (sigP x k (meaV n1 v1 c1)), .int .i64 (sigA x k (meaV n1 v1 c1))]] W fun e w' => ∃ p S, e = .returned (.tuple #[p, .nilIface]) ∧ M.Sep w w.heap.size (dvcI HLD.out w.heap.size p S (newD (pwZ 64 x) x (M.sgO x k n1 v1 c1)) :: its) w' from Device.sep_new HLD.out (pwZ 64 x) x (M.sgO x k n1 v1 c1) HZ1.out (sea_new hE1) h))
    have HE1 := hide hE1
    clear hE1
    generalize sigP x k (meaV n1 v1 c1) = p1 at M1 NW
    generalize sigA x k (meaV n1 v1 c1) = a1 at M1 NW
    go_wp2_with (fail)
    refine (M1.out _ HS1.out.lo).mono ?_
    rintro e w2 ⟨rfl, hb2⟩
    have hx2 := (HS1.out.below hb2).hb
    have HS2 := hide ((HS1.out.below hb2).allocz hx2 (.cells #[.string n1, .int .i64 v1, .string c1, .int .i64 p1, .int .i64 a1] 27))
    clear hb2 HS1 M1 r0 r1 r2
    have hi2 := blk_of HS2.out (b := w.heap.size + 1) (hB := hx1) (o := .cells #[.string n2, .int .i64 v2, .string c2] 23) (by simp)
    obtain ⟨r0, r1, r2⟩ := tri_cells hi2
    clear hi2
    by_cases hE2 : sgnE x k n2 v2 c2 = 0
    · rw [mkS_ok hE2, hE2, errV_zero] at M2
      unfold sgnC at M2
      have HE2 := hide hE2
      have HK := hide (show secB k = true from (sigC_zero (sgnE_zero hE2).2).2.1)
      clear hE2
      have UP := hide (fun (W : World) (p : Value) (S : Nat → Prop) (d : DS) (its : List (Thing w.heap.size)) (h : M.Sep w w.heap.size (dvcI HLD.out w.heap.size p S d :: its) W) => (show Calls Tryz.prog 13 #[p, .slice none 0 0, .agg #[.string n2, .int .i64 v2, .string c2, .int .i64 (sigP x k (meaV n2 v2 c2)), .int .i64 (sigA x k (meaV n2 v2 c2))]] W fun e w' => ∃ S', e = .returned (errV 96 (upeD d [] (M.sgO x k n2 v2 c2))) ∧ M.Sep w w.heap.size (dvcI HLD.out w.heap.size p S' (updD d [] (M.sgO x k n2 v2 c2)) :: its) w' from sep_upd HUL.out h none [] 0 0 (M.sgO x k n2 v2 c2) rfl (by unfold maxLen; omega) (RRow.nil _ _) HZ2.out (HH.out _ h.lo)))
      generalize sigP x k (meaV n2 v2 c2) = p2 at M2 UP
      generalize sigA x k (meaV n2 v2 c2) = a2 at M2 UP
      go_wp2_with (fail)
      refine (M2.out _ HS2.out.lo).mono ?_
      rintro e w3 ⟨rfl, hb3⟩
      have hx3 := (HS2.out.below hb3).hb
      have HS3 := hide ((HS2.out.below hb3).allocz hx3 (.cells #[.string n2, .int .i64 v2, .string c2, .int .i64 p2, .int .i64 a2] 27))
      clear hb3 HS2 M2 r0 r1 r2
      have hi3 := blk_of HS3.out (b := w2.heap.size) (hB := hx2) (o := .cells #[.string n1, .int .i64 v1, .string c1, .int .i64 p1, .int .i64 a1] 27) (by simp)
      obtain ⟨r0, r1, r2, r3, r4⟩ := quin_cells hi3
      clear hi3
      have NW1 := hide (NW.out _ _ HS3.out)
      clear NW
      go_wp2_with (fail)
      refine NW1.out.mono ?_
      rintro e w4 ⟨p, S4, rfl, hd4⟩
      have ST := hide (sep_sta HSL.out hd4 (HH.out _ hd4.lo))
      rw [(sea_sta _ _).1, (sea_sta _ _).2] at ST
      clear hd4 NW1 HS3 r0 r1 r2 r3 r4
      go_wp2_with (fail)
      refine ST.out.mono ?_
      rintro e w5 ⟨S5, rfl, hd5⟩
      have HS5 := hide hd5
      clear hd5 ST
      have T1 := tel_ok (d := onD (pwZ 64 x) x (M.sgO x k n1 v1 c1)) (k := k) (n := 1) rfl HSX.out HK.out (by decide)
      have TE := hide (sep_tel HTL.out HS5.out k 1 1 (HH.out _ HS5.out.lo))
      rw [T1.1, T1.2, errV_zero] at TE
      clear T1
      have HM1 := hide (mea_is n1 v1 c1)
      have e1 : meaV (onD (pwZ 64 x) x (M.sgO x k n1 v1 c1)).nm (onD (pwZ 64 x) x (M.sgO x k n1 v1 c1)).v (onD (pwZ 64 x) x (M.sgO x k n1 v1 c1)).cd = meaV n1 v1 c1 := rfl
      rw [e1] at TE
      clear e1
      generalize telQ (onD (pwZ 64 x) x (M.sgO x k n1 v1 c1)) k 1 1 = tq at *
      obtain ⟨u0, u1, u2, u3, u4⟩ := tq
      simp only [] at TE
      generalize meaV n1 v1 c1 = m1 at *
      go_wp2_with (fail)
      refine TE.out.mono ?_
      rintro e w6 ⟨ae, ce, rfl, hr6, hd6⟩
      have HS6 := hide (hd6.below (below_new w6 (.cells #[.int .i64 u0, .int .i64 u1, .int .i64 u2, .int .i64 u3, .int .i64 u4] 45)))
      have RY := hide (HRP.out ae [(0, m1)] 1 ce _ rfl (by unfold maxLen; omega) (hr6.below (below_new w6 (.cells #[.int .i64 u0, .int .i64 u1, .int .i64 u2, .int .i64 u3, .int .i64 u4] 45))))
      rw [show repP [(0, m1)] = repV [(0, m1)] from if_pos (sea_ev m1 HM1.out), sea_ev m1 HM1.out, errV_zero] at RY
      clear hr6 hd6 TE HS5
      have HB1 := hide (one_bankS m1)
      have HO1 := hide (Bank.bankC_one (repV [(0, m1)]))
      have CL := hide (fun (W : World) => Box.close_any sec 1 (repV [(0, m1)]) _ W rfl (one_len m1))
      have OP := hide (fun (m : Int) (W : World) => Box.open_any (clsV sec 1 (repV [(0, m1)])) (repV [(0, m)]) _ W rfl (one_len m))
      have SA := hide (fun (m : Int) (W : World) => Bank.same_any (repV [(0, m)]) (repV [(0, m1)]) _ _ 1 W rfl rfl (one_len m) (one_len m1))
      have SO := hide (fun (m : Int) (h : clsE sec 1 (repV [(0, m1)]) = 0) => sea_open (s := sec) (m := m1) (n := m) h)
      generalize hbk : bankC (repV [(0, m1)]) = bk at *
      clear hbk
      go_wp2_with (fail)
      refine RY.out.mono ?_
      rintro e w7 ⟨rfl, hb7⟩
      have hx7 := (HS6.out.below hb7).hb
      have HS7 := hide ((HS6.out.below hb7).allocz hx7 (.cells bk 67))
      have HK7 := hide (blk_new w7 (.cells bk 67))
      clear hb7 HS6 RY
      by_cases hsm : isM sec = true
      · have hce := sea_cls (m := m1) hsm
        rw [hce, errV_zero] at CL
        have SO1 := hide (fun m => SO.out m hce)
        clear SO hce
        have hsr := isM_iff.1 hsm
        clear hsm
        generalize clsV sec 1 (repV [(0, m1)]) = bx at *
        obtain ⟨y0, y1, y2⟩ := bx
        unfold Box.boxC at CL OP
        simp only [] at CL OP
        go_wp2_with (first
          | ((with_reducible refine Bank.wpl_store_new 22 87 _ _ ?_ ?_ ?_ ?_ Bank.noBank_size HB1.out HO1.out ?_); rfl; rfl; rfl; rfl)
          | ((with_reducible refine Bank.wpl_load 22 ?_ ?_ _ ?_ _ _ HK7.out HB1.out ?_); rfl; rfl; rfl))
        refine (CL.out _).mono ?_
        rintro e w8 ⟨rfl, hb8⟩
        have hx8 := (HS7.out.below hb8).hb
        have HS8 := hide (((HS7.out.below hb8).allocz hx8 (.cells #[.int .i64 y0, .int .i64 y1, .int .i64 y2] 83)).perm (List.perm_middle (l₁ := [_, _])))
        clear hb8 HS7 HK7 CL
        have hi8 := blk_of HS8.out (b := w3.heap.size) (hB := hx3) (o := .cells #[.string n2, .int .i64 v2, .string c2, .int .i64 p2, .int .i64 a2] 27) (by simp)
        obtain ⟨r0, r1, r2, r3, r4⟩ := quin_cells hi8
        clear hi8
        by_cases hnE : newE n2 v2 c2 n1 v1 c1 = 0
        · obtain ⟨uv, tr, d1, d2, hUP, hd2, hnv, hcmp, f1, f2, f3, f4, f5, f6, f7⟩ : ∃ (uv : Value) (tr : Bool) (d1 d2 : DS), (errV 96 (upeD (onD (pwZ 64 x) x (M.sgO x k n1 v1 c1)) [] (M.sgO x k n2 v2 c2)) = uv ∧ updD (onD (pwZ 64 x) x (M.sgO x k n1 v1 c1)) [] (M.sgO x k n2 v2 c2) = d1) ∧ (trialD d1 = tr ∧ staD d1 = d2) ∧ newV n2 v2 c2 n1 v1 c1 = tr ∧ ((uv = .nilIface ∧ tr = true) ∨ (uv = .iface 96 (.int .i64 9) ∧ tr = false)) ∧
              d2.on = true ∧ d2.x = x ∧ trialD (staD (staD d2)) = false ∧ (staD (staD (staD d2))).on = true ∧ (staD (staD (staD d2))).nm = n1 ∧ (staD (staD (staD d2))).v = v1 ∧ (staD (staD (staD d2))).cd = c1 := by
            by_cases hv : v1 < v2
            · obtain ⟨s1, s2, s3⟩ := sea_newer HE1.out HE2.out hnE hv
              refine ⟨_, _, _, _, ⟨rfl, rfl⟩, ⟨rfl, rfl⟩, ?_, Or.inl ⟨?_, s2⟩, ?_⟩
              · rw [newV_ok hnE, s2]; exact decide_eq_true hv
              · rw [s1]; rfl
              · rw [s3]
                exact ⟨rfl, rfl, rfl, rfl, rfl, rfl, rfl⟩
            · obtain ⟨s1, s2⟩ := sea_old HE1.out HE2.out hnE hv
              refine ⟨_, _, _, _, ⟨rfl, rfl⟩, ⟨rfl, rfl⟩, ?_, Or.inr ⟨?_, ?_⟩, ?_⟩
              · rw [newV_ok hnE, s2]; exact decide_eq_false hv
              · rw [s1]; rfl
              · rw [s2]; rfl
              · rw [s2]
                exact ⟨rfl, rfl, rfl, rfl, rfl, rfl, rfl⟩
          have UP1 := hide (UP.out _ _ _ _ _ HS8.out)
          rw [hUP.1, hUP.2] at UP1
          rw [hnv, hnE, errV_zero] at NR
          have T2 := tel_ok (d := d2) (k := k) (n := 2) f1 (by rw [f2]; exact HSX.out) HK.out (by decide)
          have HM2 := hide (mea_is d2.nm d2.v d2.cd)
          have HT := hide T2
          have HF3 := hide f3
          have HF4 := hide f4
          have HF5 := hide f5
          have HF6 := hide f6
          have HF7 := hide f7
          clear hUP hnv UP HE1 HE2 hnE T2 f1 f2 f3 f4 f5 f6 f7
          go_wp2_with (fail)
          refine UP1.out.mono ?_
          rintro e w9 ⟨S9, rfl, hd9⟩
          have ST := hide (sep_sta HSL.out hd9 (HH.out _ hd9.lo))
          rw [hd2.1, hd2.2] at ST
          clear hd9 UP1 HS8 hd2 r0 r1 r2 r3 r4
          go_wp2_with (fail)
          refine ST.out.mono ?_
          rintro e w10 ⟨S10, rfl, hd10⟩
          have HS10 := hide hd10
          clear hd10 ST
          have i1 := blk_of HS10.out (b := w.heap.size) (hB := Nat.le_refl _) (o := .cells #[.string n1, .int .i64 v1, .string c1] 23) (by simp)
          have i2 := blk_of HS10.out (b := w.heap.size + 1) (hB := hx1) (o := .cells #[.string n2, .int .i64 v2, .string c2] 23) (by simp)
          obtain ⟨q0, q1, q2⟩ := tri_cells i1
          obtain ⟨t0, t1, t2⟩ := tri_cells i2
          clear i1 i2
          go_wp2_with (fail)
          refine (NR.out _).mono ?_
          rintro e w11 ⟨rfl, hb11⟩
          have HS11 := hide (HS10.out.below hb11)
          clear hb11 HS10 q0 q1 q2 t0 t1 t2 NR
          have TE := hide (sep_tel HTL.out HS11.out k 2 1 (HH.out _ HS11.out.lo))
          rw [HT.out.1, HT.out.2, errV_zero] at TE
          clear HT
          generalize meaV d2.nm d2.v d2.cd = m2 at *
          generalize telQ d2 k 2 1 = tq at *
          obtain ⟨z0, z1, z2, z3, z4⟩ := tq
          simp only [] at TE
          have RY2 := hide (fun (W : World) (ae : Option Addr) (ce : Nat) (h : RRow 2 evV W ae [(0, m2)]) => HRP.out ae [(0, m2)] 1 ce W rfl (by unfold maxLen; omega) h)
          rw [show repP [(0, m2)] = repV [(0, m2)] from if_pos (sea_ev m2 HM2.out), sea_ev m2 HM2.out, errV_zero] at RY2
          have OP1 := hide (OP.out m2)
          have SA1 := hide (SA.out m2)
          rw [(one_same m2 m1).1, errV_zero] at SA1
          have HB2 := hide (one_bankS m2)
          have HO2 := hide (Bank.bankC_one (repV [(0, m2)]))
          have HSO := hide (SO1.out m2)
          clear OP SA SO1
          generalize bankC (repV [(0, m2)]) = bk2 at *
          generalize sameV (repV [(0, m2)]) (repV [(0, m1)]) 1 = sv at *
          generalize opnE (y0, y1, y2) (repV [(0, m2)]) = oe at *
          generalize opnV (y0, y1, y2) (repV [(0, m2)]) = ov at *
          rcases hcmp with ⟨rfl, rfl⟩ | ⟨rfl, rfl⟩
          all_goals
            go_wp2_with (fail)
            refine TE.out.mono ?_
            rintro e w12 ⟨ae2, ce2, rfl, hr12, hd12⟩
            have HS12 := hide hd12
            have RY3 := hide (RY2.out _ _ ce2 hr12)
            clear hr12 hd12 TE RY2 HS11
            go_wp2_with (fail)
            refine RY3.out.mono ?_
            rintro e w13 ⟨rfl, hb13⟩
            have hx13 := (HS12.out.below hb13).hb
            have HS13 := hide (((HS12.out.below hb13).allocz hx13 (.cells bk2 67)).perm (List.Perm.swap _ _ _))
            have HK13 := hide (blk_new w13 (.cells bk2 67))
            clear hb13 HS12 RY3
            have ib := blk_of HS13.out (b := w8.heap.size) (hB := hx8) (o := .cells #[.int .i64 y0, .int .i64 y1, .int .i64 y2] 83) (by simp)
            obtain ⟨q0, q1, q2⟩ := tri_cells ib
            clear ib
            go_wp2_with (first
              | ((with_reducible refine Bank.wpl_store_new 28 145 _ _ ?_ ?_ ?_ ?_ Bank.noBank_size HB2.out HO2.out ?_); rfl; rfl; rfl; rfl)
              | ((with_reducible refine Bank.wpl_load 28 ?_ ?_ _ ?_ _ _ HK13.out HB2.out ?_); rfl; rfl; rfl))
            refine (OP1.out _).mono ?_
            rintro e w14 ⟨rfl, hb14⟩
            have HS14 := hide (HS13.out.below hb14)
            clear hb14 HS13 HK13 OP1 q0 q1 q2
            have HK14 := hide (blk_of HS14.out (b := w13.heap.size) (hB := hx13) (o := .cells bk2 67) (by simp))
            have HK15 := hide (blk_of HS14.out (b := w7.heap.size) (hB := hx7) (o := .cells bk 67) (by simp))
            go_wp2_with (first
              | ((with_reducible refine Bank.wpl_load 28 ?_ ?_ _ ?_ _ _ HK14.out HB2.out ?_); rfl; rfl; rfl)
              | ((with_reducible refine Bank.wpl_load 22 ?_ ?_ _ ?_ _ _ HK15.out HB1.out ?_); rfl; rfl; rfl))
            refine (SA1.out _).mono ?_
            rintro e w15 ⟨rfl, hb15⟩
            have HS15 := hide (HS14.out.below hb15)
            clear hb15 HS14 HK14 HK15 SA1
            have S1 := hide (sep_sta HSL.out HS15.out (HH.out _ HS15.out.lo))
            have S2 := hide (fun (W : World) (S : Nat → Prop) (its : List (Thing w.heap.size)) (h : M.Sep w w.heap.size (dvcI HLD.out w.heap.size p S (staD d2) :: its) W) => sep_sta HSL.out h (HH.out _ h.lo))
            have S3 := hide (fun (W : World) (S : Nat → Prop) (its : List (Thing w.heap.size)) (h : M.Sep w w.heap.size (dvcI HLD.out w.heap.size p S (staD (staD d2)) :: its) W) => sep_sta HSL.out h (HH.out _ h.lo))
            rw [HF3.out] at S3
            have RU := hide (fun (W : World) (S : Nat → Prop) (its : List (Thing w.heap.size)) (h : M.Sep w w.heap.size (dvcI HLD.out w.heap.size p S (staD (staD (staD d2))) :: its) W) => sep_run HRL.out h)
            rw [HF4.out, HF5.out, HF6.out, HF7.out, show runD (staD (staD (staD d2))) = 0 by unfold runD; rw [HF4.out]; rfl, errV_zero] at RU
            simp only [if_true] at RU
            clear HF3 HF4 HF5 HF6 HF7 HS15
            generalize staD (staD (staD d2)) = d5 at *
            generalize trialD (staD d2) = b4 at *
            generalize staD (staD d2) = d4 at *
            generalize trialD d2 = b3 at *
            generalize staD d2 = d3 at *
            rcases HSO.out with ⟨rfl, rfl, rfl⟩ | ⟨rfl, rfl⟩
            all_goals
              first | rw [errV_zero] | rw [errV_no (show ¬ (8 : Int) = 0 by decide)]
              clear HSO
              go_wp2_with (fail)
              refine S1.out.mono ?_
              rintro e w16 ⟨S16, rfl, hd16⟩
              have S2' := hide (S2.out _ _ _ hd16)
              clear hd16 S1 S2
              go_wp2_with (fail)
              refine S2'.out.mono ?_
              rintro e w17 ⟨S17, rfl, hd17⟩
              have S3' := hide (S3.out _ _ _ hd17)
              clear hd17 S2' S3
              go_wp2_with (fail)
              refine S3'.out.mono ?_
              rintro e w18 ⟨S18, rfl, hd18⟩
              have RU' := hide (RU.out _ _ _ hd18)
              clear hd18 S3' RU
              go_wp2_with (fail)
              refine RU'.out.mono ?_
              rintro e w19 ⟨rfl, hd19⟩
              have hx19 := hd19.hb
              have HS19 := hide (hd19.allocz hx19 (.cells #[.string n1, .int .i64 v1, .string c1] 23))
              clear hd19 RU'
              have i1 := blk_of HS19.out (b := w.heap.size) (hB := Nat.le_refl _) (o := .cells #[.string n1, .int .i64 v1, .string c1] 23) (by simp)
              have i2 : (w19.alloc (.cells #[.string n1, .int .i64 v1, .string c1] 23)).heap[w19.heap.size]? = some (.cells #[.string n1, .int .i64 v1, .string c1] 23) := blk_new _ _
              obtain ⟨q0, q1, q2⟩ := tri_cells i1
              obtain ⟨t0, t1, t2⟩ := tri_cells i2
              clear i1 i2
              go_wp2
              go_ret
              exact ⟨rfl, HS19.out.lo⟩
        · obtain ⟨s1, s2, s3⟩ := sea_name HE1.out HE2.out hnE
          have UP1 := hide (UP.out _ _ _ _ _ HS8.out)
          rw [s2, errV_no (show ¬ (3 : Int) = 0 by decide)] at UP1
          rw [newV_bad hnE, s1, errV_no (show ¬ (3 : Int) = 0 by decide)] at NR
          clear UP s1 s2 hnE
          go_wp2_with (fail)
          refine UP1.out.mono ?_
          rintro e w9 ⟨S9, rfl, hd9⟩
          have ST := hide (sep_sta HSL.out hd9 (HH.out _ hd9.lo))
          rw [s3] at ST
          clear hd9 UP1 HS8 s3 r0 r1 r2 r3 r4
          go_wp2_with (fail)
          refine ST.out.mono ?_
          rintro e w10 ⟨S10, rfl, hd10⟩
          have HS10 := hide hd10
          clear hd10 ST
          have i1 := blk_of HS10.out (b := w.heap.size) (hB := Nat.le_refl _) (o := .cells #[.string n1, .int .i64 v1, .string c1] 23) (by simp)
          have i2 := blk_of HS10.out (b := w.heap.size + 1) (hB := hx1) (o := .cells #[.string n2, .int .i64 v2, .string c2] 23) (by simp)
          obtain ⟨q0, q1, q2⟩ := tri_cells i1
          obtain ⟨t0, t1, t2⟩ := tri_cells i2
          clear i1 i2
          go_wp2_with (fail)
          refine (NR.out _).mono ?_
          rintro e w11 ⟨rfl, hb11⟩
          have HS11 := hide (HS10.out.below hb11)
          clear hb11 HS10 q0 q1 q2 t0 t1 t2 NR
          go_wp2_with (fail)
          refine (As.same_err 3 3 _ (HG.out _ HS11.out.lo)).mono ?_
          rintro e w12 ⟨rfl, hb12⟩
          have HS12 := hide (HS11.out.below hb12)
          go_wp2
          go_ret
          exact ⟨rfl, HS12.out.lo⟩
      · have hce : clsE sec 1 (repV [(0, m1)]) = 1 := clsE_no (by simpa using hsm)
        rw [hce, errV_no (show ¬ (1 : Int) = 0 by decide)] at CL
        have hcv : clsV sec 1 (repV [(0, m1)]) = (0, 0, 0) := clsV_no (by rw [hce]; decide)
        rw [hcv] at CL
        unfold Box.boxC at CL
        simp only [] at CL
        have hsr : sec < 0 ∨ ¬ sec < 0 ∧ 1000002 < sec := by
          have : ¬ (0 ≤ sec ∧ sec < 1000003) := fun hc => hsm (isM_iff.2 hc)
          omega
        clear hce hcv hsm OP SA SO UP NR
        go_wp2_with (first
          | ((with_reducible refine Bank.wpl_store_new 22 87 _ _ ?_ ?_ ?_ ?_ Bank.noBank_size HB1.out HO1.out ?_); rfl; rfl; rfl; rfl)
          | ((with_reducible refine Bank.wpl_load 22 ?_ ?_ _ ?_ _ _ HK7.out HB1.out ?_); rfl; rfl; rfl))
        refine (CL.out _).mono ?_
        rintro e w8 ⟨rfl, hb8⟩
        have HS8 := hide ((HS7.out.below hb8).below (below_new w8 (.cells #[.int .i64 0, .int .i64 0, .int .i64 0] 83)))
        clear hb8 HS7 HK7 CL
        rcases hsr with h0 | ⟨h0, h1⟩
        · go_wp2
          go_ret
          exact ⟨rfl, HS8.out.lo⟩
        · go_wp2
          go_ret
          exact ⟨rfl, HS8.out.lo⟩
    · rw [mkS_no hE2, errV_no hE2] at M2
      unfold sgnC at M2
      go_wp2_with (fail)
      refine (M2.out _ HS2.out.lo).mono ?_
      rintro e w3 ⟨rfl, hb3⟩
      have HS3 := hide ((HS2.out.below hb3).below (below_new w3 (.cells #[.string { data := #[] }, .int .i64 0, .string { data := #[] }, .int .i64 0, .int .i64 0] 27)))
      clear hb3 HS2 M2 r0 r1 r2
      go_wp2
      go_ret
      exact ⟨rfl, HS3.out.lo⟩
  · rw [mkS_no hE1, errV_no hE1] at M1
    unfold sgnC at M1
    obtain ⟨g0, g1, g2, g3, g4, hf⟩ := mkS_form x k n2 v2 c2
    rw [hf] at M2
    clear hf
    go_wp2_with (fail)
    refine (M1.out _ HS1.out.lo).mono ?_
    rintro e w2 ⟨rfl, hb2⟩
    have HS2 := hide ((HS1.out.below hb2).below (below_new w2 (.cells #[.string { data := #[] }, .int .i64 0, .string { data := #[] }, .int .i64 0, .int .i64 0] 27)))
    clear hb2 HS1 M1 r0 r1 r2
    have hi2 := blk_of HS2.out (b := w.heap.size + 1) (hB := hx1) (o := .cells #[.string n2, .int .i64 v2, .string c2] 23) (by simp)
    obtain ⟨r0, r1, r2⟩ := tri_cells hi2
    clear hi2
    generalize errV 96 (sgnE x k n2 v2 c2) = ev at *
    go_wp2_with (fail)
    refine (M2.out _ HS2.out.lo).mono ?_
    rintro e w3 ⟨rfl, hb3⟩
    have HS3 := hide ((HS2.out.below hb3).below (below_new w3 (.cells #[.string g0, .int .i64 g1, .string g2, .int .i64 g3, .int .i64 g4] 27)))
    clear hb3 HS2 M2 r0 r1 r2
    go_wp2
    go_ret
    exact ⟨rfl, HS3.out.lo⟩
end Go.Proofs.YtpgmhdfjhaofnaaGreatDoor.TopSealed
