/-
  The walk of stairlaw2.DeviceNever: it returns true, and memory that was there stays as it was.
-/
import Derived.Test.YtojdaifnljghkabGreatDoorQDeviceOb
import Derived.Test.YtojdaifnljghkabGreatDoorQNeverMath
import Derived.Test.YtojdaifnljghkabGreatDoorQJudgeLaw
import Derived.Test.YtojdaifnljghkabGreatDoorPack1
import Derived.Test.YtojdaifnljghkabGreatDoorQCells
import Derived.Test.YtojdaifnljghkabGreatDoorPack2
import Derived.Deep.DeepCutAuto
import Derived.Deep.CutBlock
namespace Go.Proofs.YtojdaifnljghkabGreatDoor.DeviceNever
open Go.ChangeShapes Go.WideShapes Go.ChangeAt Go.RowKit
open Go.Proofs.YtojdaifnljghkabGreatDoor.M Go.Proofs.YtojdaifnljghkabGreatDoor.Device Go.Proofs.YtojdaifnljghkabGreatDoor.Image
set_option linter.unusedVariables false

theorem errV_no {T : TypeId} {k : Int} (h : ¬ k = 0) : errV T k = .iface T (.int .i64 k) := if_neg h
/-- The first image of all. -/
def oneS : Sg := ⟨{ data := #[111, 115] }, 3, { data := #[] }, 0, 0⟩
theorem one_new : dvcE 64 5 oneS = 0 := by decide
theorem one_sz : szS oneS := ⟨by show (2 : Nat) ≤ 140737488351232; omega, by show (0 : Nat) ≤ 140737488351232; omega⟩
theorem one_facts : trialD (newD 64 5 oneS) = false ∧ (staD (newD 64 5 oneS)).on = true ∧ (staD (newD 64 5 oneS)).nm = { data := #[111, 115] } ∧ (staD (newD 64 5 oneS)).v = 3 ∧ (staD (newD 64 5 oneS)).cd = { data := #[] } ∧ runD (staD (newD 64 5 oneS)) = 0 ∧ gooE (staD (newD 64 5 oneS)) = 7 :=
  ⟨rfl, rfl, rfl, rfl, rfl, rfl, rfl⟩
def sgO (s : Sg) : Obj := .cells #[.string s.nm, .int .i64 s.v, .string s.cd, .int .i64 s.p, .int .i64 s.a] 27
section
variable {Dvc : World → Nat → Value → (Nat → Prop) → DS → Prop}
/-- The device, and the first image, side by side. -/
def Q2 (LD : Core Dvc) (w0 : World) (p : Value) (S : Nat → Prop) (d : DS) (s : Sg) (W : World) : Prop :=
  Sep w0 w0.heap.size [dvcI LD w0.heap.size p S d, blkI w0.heap.size w0.heap.size (Nat.le_refl _) (sgO s)] W
variable {LD : Core Dvc} {w0 W W' : World} {p : Value} {S : Nat → Prop} {d : DS} {s : Sg}
theorem Q2.below (h : Q2 LD w0 p S d s W) (hb : Below W.heap.size W W') : Q2 LD w0 p S d s W' := Sep.below h hb
theorem Q2.lo (h : Q2 LD w0 p S d s W) : Below w0.heap.size w0 W := Sep.lo h
theorem Q2.hb (h : Q2 LD w0 p S d s W) : w0.heap.size ≤ W.heap.size := Sep.hb h
theorem Q2.dv (h : Q2 LD w0 p S d s W) : Dvc W w0.heap.size p S d := Sep.p0 h
theorem Q2.b (h : Q2 LD w0 p S d s W) : W.heap[w0.heap.size]? = some (.cells #[.string s.nm, .int .i64 s.v, .string s.cd, .int .i64 s.p, .int .i64 s.a] 27) := Sep.p1 h
end
theorem ev_one {W : World} {a : Option Addr} {m : Int} (h : RRow 2 evV W a [(0, m)]) : ∃ b off, a = some ⟨b, off, none⟩ ∧ W.cell? ⟨b, off + 1, none⟩ = some (.int .i64 m) := by
  obtain ⟨b, off, e, hc⟩ := h.at (k := 0) (x := (0, m)) rfl
  have h1 := hc 1 (.int .i64 m) rfl
  simp only [Nat.zero_mul, Nat.add_zero] at h1
  exact ⟨b, off, e, h1⟩

set_option maxRecDepth 20000 in
set_option maxHeartbeats 8000000 in
theorem walk {Dvc : World → Nat → Value → (Nat → Prop) → DS → Prop} (LD : Core Dvc) (UL : UpdateLaw Dvc) (SL : StartLaw Dvc) (GL : GoodLaw Dvc) (TL : TellLaw Dvc) (RL : RunsLaw Dvc) (JL : Judge.SureLaw)
    (root x : Int) (first : Sg) (a3 : Option Addr) (n3 c3 : Nat) (ds : List Int) (a4 : Option Addr) (n4 c4 : Nat) (l : List (Int × Int × Int)) (a5 : Option Addr) (n5 c5 : Nat) (xs : List Sg) (k : Int) (w : World)
    (hs : szS first) (hn3 : n3 = ds.length) (hm3 : n3 ≤ maxLen) (hr3 : Row w a3 ds) (hn4 : n4 = l.length) (hm4 : n4 ≤ maxLen) (hr4 : RRow 3 certV w a4 l) (hn5 : n5 = xs.length) (hm5 : n5 ≤ maxLen) (hr5 : RRow 5 sgV w a5 xs) (hs5 : ∀ s ∈ xs, szS s) (hh : Has w) (hg : As.Handle w) :
    Calls Tryz.prog 3 #[.int .i64 root, .int .i64 x, sgA first, .slice a3 n3 c3, .slice a4 n4 c4, .slice a5 n5 c5, .int .i64 k] w fun e w' => e = .returned (.bool true) ∧ Below w.heap.size w w' := by
  have HLD := hide LD
  have HUL := hide UL
  have HSL := hide SL
  have HGL := hide GL
  have HTL := hide TL
  have HRL := hide RL
  have HJL := hide JL
  have HH := hide (fun (W : World) (h : Below w.heap.size w W) => hh.below h)
  have HG := hide (fun (W : World) (h : Below w.heap.size w W) => hg.below h)
  have HSZ := hide hs
  have HN3 := hide hn3
  have HR3 := hide hr3
  have HN4 := hide hn4
  have HM4 := hide hm4
  have HR4 := hide hr4
  have HN5 := hide hn5
  have HR5 := hide hr5
  have HS5 := hide hs5
  have hm3' : n3 ≤ 9223372036854775807 := by unfold maxLen at hm3; omega
  have hm5' : n5 ≤ 9223372036854775807 := by unfold maxLen at hm5; omega
  obtain ⟨fn, fv, fc, fp, fa⟩ := first
  have HS0 : Hid (M.Sep w w.heap.size [blkI w.heap.size w.heap.size (Nat.le_refl _) (sgO ⟨fn, fv, fc, fp, fa⟩)] (w.alloc (.cells #[.string fn, .int .i64 fv, .string fc, .int .i64 fp, .int .i64 fa] 27))) := (Sep.nil (Below.refl _ _) (Nat.le_refl _)).allocz (Nat.le_refl _) _
  have N1 := hide (Device.sep_new HLD.out 64 5 oneS one_sz one_new HS0.out)
  have NO := hide (fun (W : World) (h : ¬ dvcE root x ⟨fn, fv, fc, fp, fa⟩ = 0) => LD.newNo root x ⟨fn, fv, fc, fp, fa⟩ W hs h)
  have NW := hide (fun (W : World) (h : M.Sep w w.heap.size [blkI w.heap.size w.heap.size (Nat.le_refl _) (sgO ⟨fn, fv, fc, fp, fa⟩)] W) (hE : dvcE root x ⟨fn, fv, fc, fp, fa⟩ = 0) => Device.sep_new HLD.out root x ⟨fn, fv, fc, fp, fa⟩ hs hE h)
  unfold sgA at N1 NO NW ⊢
  simp only [] at NO NW ⊢
  have e1 : oneS.nm = { data := #[111, 115] } ∧ oneS.v = 3 ∧ oneS.cd = { data := #[] } ∧ oneS.p = 0 ∧ oneS.a = 0 := ⟨rfl, rfl, rfl, rfl, rfl⟩
  rw [e1.1, e1.2.1, e1.2.2.1, e1.2.2.2.1, e1.2.2.2.2] at N1
  obtain ⟨t1, t2, t3, t4, t5, t6, t7⟩ := one_facts
  clear LD UL SL GL TL RL JL hs hn3 hm3 hr3 hn4 hm4 hr4 hn5 hm5 hr5 hs5 hh hg e1
  go_enter Tryz.func3, Tryz.ntmps3
  go_wp2_with (fail)
  refine N1.out.mono ?_
  rintro e w1 ⟨p1, S1, rfl, hd1⟩
  have ST := hide (sep_sta HSL.out hd1 (HH.out _ hd1.lo))
  rw [t1] at ST
  clear hd1 HS0 N1
  go_wp2_with (fail)
  refine ST.out.mono ?_
  rintro e w2 ⟨S2, rfl, hd2⟩
  have RU := hide (sep_run HRL.out hd2)
  rw [t2, t3, t4, t5, t6, errV_zero] at RU
  simp only [if_true] at RU
  clear hd2 ST
  go_wp2_with (fail)
  refine RU.out.mono ?_
  rintro e w3 ⟨rfl, hd3⟩
  have hz3 := hd3.hb
  have HS3 := hide ((hd3.allocz hz3 (.cells #[.string { data := #[111, 115] }, .int .i64 3, .string { data := #[] }] 23)).perm (List.Perm.swap _ _ _))
  have hi3 : (w3.alloc (.cells #[.string { data := #[111, 115] }, .int .i64 3, .string { data := #[] }] 23)).heap[w3.heap.size]? = some (.cells #[.string { data := #[111, 115] }, .int .i64 3, .string { data := #[] }] 23) := HS3.out.p1
  obtain ⟨i0, i1, i2⟩ := tri_cells hi3
  have GO := hide (sep_goo HGL.out HS3.out)
  rw [t7, errV_no (show ¬ (7 : Int) = 0 by decide)] at GO
  clear hd3 RU hi3 t1 t2 t3 t4 t5 t6 t7 HS3
  go_wp2_with (fail)
  refine GO.out.mono ?_
  rintro e w4 ⟨S4, rfl, hd4⟩
  have HS4 := hide hd4.tail.tail
  clear hd4 GO i0 i1 i2 hz3
  go_wp2_with (fail)
  refine (As.same_err 7 7 _ (HG.out _ HS4.out.lo)).mono ?_
  rintro e w5 ⟨rfl, hb5⟩
  have HS5x := hide (HS4.out.below hb5)
  clear hb5 HS4
  have hsg : w5.heap[w.heap.size]? = some (.cells #[.string fn, .int .i64 fv, .string fc, .int .i64 fp, .int .i64 fa] 27) := HS5x.out.p0
  obtain ⟨q0, q1, q2, q3, q4⟩ := quin_cells hsg
  clear hsg
  by_cases hE : dvcE root x ⟨fn, fv, fc, fp, fa⟩ = 0
  · have hx := (dvcE_zero hE).2.1
    have NW1 := hide (NW.out _ HS5x.out hE)
    clear NO NW hE
    go_wp2_with (fail)
    refine NW1.out.mono ?_
    rintro e w6 ⟨p, S0, rfl, hd6⟩
    have HQ0 : Hid (Q2 HLD.out w p S0 (newD root x ⟨fn, fv, fc, fp, fa⟩) ⟨fn, fv, fc, fp, fa⟩ w6) := hd6
    clear hd6 NW1 HS5x q0 q1 q2 q3 q4
    have hsg := HQ0.out.b
    obtain ⟨q0, q1, q2, q3, q4⟩ := quin_cells hsg
    clear hsg
    have PB := hide (fun W => Key.public_ok x W hx)
    clear hx
    go_wp2_with (fail)
    refine (PB.out _).mono ?_
    rintro e wz ⟨rfl, hw⟩
    rw [hw]
    clear hw PB wz
    have HP0 : Hid ((newD root x ⟨fn, fv, fc, fp, fa⟩).root = root ∧ (newD root x ⟨fn, fv, fc, fp, fa⟩).x = x ∧ VerD fn fv (newD root x ⟨fn, fv, fc, fp, fa⟩)) := ⟨rfl, rfl, ver_new⟩
    generalize newD root x ⟨fn, fv, fc, fp, fa⟩ = d0 at *
    go_wp2
    clear q0 q1 q2 q3 q4
    go_loopw [22, 23, 24, 25, 26, 27, 28, 29, 30, 31, 32, 98, 113] (fun s22 s23 s24 _ _ _ _ _ _ _ _ _ _ wr => ∃ (i j : Nat) (S : Nat → Prop) (d : DS) (g : Int), i ≤ 50 ∧ j ≤ i ∧ s22 = .int .i64 g ∧ s23 = .int .i64 j ∧ s24 = .int .i64 i ∧ Hid (Q2 HLD.out w p S d ⟨fn, fv, fc, fp, fa⟩ wr) ∧ Hid (d.root = root ∧ d.x = x ∧ VerD fn g d)) (fun _ _ s24 _ _ _ _ _ _ _ _ _ _ _ => 50 - (intOf s24).toNat)
    case atStart => exact ⟨0, 0, S0, d0, fv, by omega, by omega, rfl, rfl, rfl, HQ0.out, HP0.out⟩
    case round =>
      obtain ⟨i, j, S, d, g, h50, hj, rfl, rfl, rfl, HQ, HP⟩ := hrel
      clear HQ0 HP0
      have HOK := hide (HLD.out.ok HQ.out.dv)
      by_cases hlt : i < n3 ∧ i < 50
      · obtain ⟨hin, hi50⟩ := hlt
        have hinz : (i : Int) < n3 := by omega
        have hi50z : (i : Int) < 50 := by omega
        obtain ⟨y, hy⟩ : ∃ y, ds[i]? = some y := ⟨ds[i]'(by have := HN3.out; omega), List.getElem?_eq_getElem (by have := HN3.out; omega)⟩
        obtain ⟨b3, o3, rfl, hcell⟩ : ∃ b off, a3 = some ⟨b, off, none⟩ ∧ wr.cell? ⟨b, off + i, none⟩ = some (.int .i64 y) := by
          rcases HR3.out.below HQ.out.lo with h | ⟨b, off, h1, h2⟩
          · rw [h] at hy; simp at hy
          · exact ⟨b, off, h1, h2 i y hy⟩
        clear hy
        go_upto_block 2 with (fail)
        go_cut [22, 23, 25, 26] from 82 to 189 (fun s22 s23 _ _ w' => ∃ (j : Nat) (S : Nat → Prop) (d : DS) (g : Int), j ≤ i + 1 ∧ s22 = .int .i64 g ∧ s23 = .int .i64 j ∧ Hid (Q2 HLD.out w p S d ⟨fn, fv, fc, fp, fa⟩ w') ∧ Hid (d.root = root ∧ d.x = x ∧ VerD fn g d))
        case first =>
          by_cases hy0 : y = 0
          · as_aux_lemma =>
            subst hy0
            by_cases h5 : j < n5
            · have h5z : (j : Int) < n5 := by omega
              obtain ⟨⟨nm, z, cd, pp, aa⟩, hx⟩ : ∃ y, xs[j]? = some y := ⟨xs[j]'(by have := HN5.out; omega), List.getElem?_eq_getElem (by have := HN5.out; omega)⟩
              have HSS := HS5.out _ (List.mem_of_getElem? hx)
              obtain ⟨b5, o5, rfl, hc5⟩ := (HR5.out.below HQ.out.lo).at hx
              have d0 := hc5 0 _ rfl
              have d1 := hc5 1 _ rfl
              have d2 := hc5 2 _ rfl
              have d3 := hc5 3 _ rfl
              have d4 := hc5 4 _ rfl
              simp only [Nat.add_zero] at d0
              have UP := hide (sep_upd HUL.out HQ.out a4 l n4 c4 ⟨nm, z, cd, pp, aa⟩ HN4.out HM4.out (HR4.out.below HQ.out.lo) HSS (HH.out _ HQ.out.lo))
              have HV : Hid ((updD d l ⟨nm, z, cd, pp, aa⟩).root = root ∧ (updD d l ⟨nm, z, cd, pp, aa⟩).x = x ∧ VerD fn g (updD d l ⟨nm, z, cd, pp, aa⟩)) := ⟨HP.out.1, HP.out.2.1, ver_upd HP.out.2.2⟩
              generalize upeD d l ⟨nm, z, cd, pp, aa⟩ = ue at *
              generalize updD d l ⟨nm, z, cd, pp, aa⟩ = d9 at *
              unfold sgA at UP
              simp only [] at UP
              clear hx hc5 HSS HP HOK
              go_wp2_with (fail)
              refine UP.out.mono ?_
              rintro e w7 ⟨S7, rfl, hd7⟩
              have HQ7 : Hid (Q2 HLD.out w p S7 d9 ⟨fn, fv, fc, fp, fa⟩ w7) := hd7
              clear hd7 UP HQ hcell d0 d1 d2 d3 d4
              go_wp2
              go_meet
              exact ⟨j + 1, S7, d9, g, by omega, rfl, by go_num, HQ7, HV⟩
            · have h5z : ¬ (j : Int) < n5 := by omega
              go_wp2
              go_meet
              exact ⟨j, S, d, g, by omega, rfl, rfl, HQ, HP⟩
          by_cases hy1 : y = 1
          · as_aux_lemma =>
            subst hy1
            have DG := hide (sep_goo HGL.out HQ.out)
            by_cases hz : gooE d = 0
            · rw [hz, errV_zero] at DG
              have hc := gooE_zero.1 hz
              have hvo := ver_on HOK.out HP.out.2.2 hc.1
              have hlt := hvo.2.2.1 hc.2
              obtain ⟨u1, u2, u3, u4, u5, u6⟩ := gooD_run (d := d)
              have HV : Hid ((gooD d).root = root ∧ (gooD d).x = x ∧ VerD fn d.v (gooD d)) := ⟨u6.trans HP.out.1, u5.trans HP.out.2.1, ver_goo HOK.out HP.out.2.2 hc⟩
              have hon : (gooD d).on = true := u1.trans hc.1
              have hrun : runD (gooD d) = 0 := by unfold runD; rw [hon]; rfl
              have RU := hide (fun (W : World) (S : Nat → Prop) (h : Q2 HLD.out w p S (gooD d) ⟨fn, fv, fc, fp, fa⟩ W) => sep_run HRL.out h)
              rw [hon, hrun, u2, u3, u4, errV_zero] at RU
              simp only [if_true] at RU
              clear hc hvo u1 u2 u3 u4 u5 u6 hon hrun HP HOK hz
              generalize gooD d = d9 at *
              generalize d.nm = mn at *
              generalize d.v = mv at *
              generalize d.cd = mc at *
              have hle : ¬ mv ≤ g := by omega
              clear hlt
              go_wp2_with (fail)
              refine DG.out.mono ?_
              rintro e w7 ⟨S7, rfl, hd7⟩
              have HQ7 : Hid (Q2 HLD.out w p S7 d9 ⟨fn, fv, fc, fp, fa⟩ w7) := hd7
              have RU1 := hide (RU.out _ _ HQ7.out)
              clear hd7 DG HQ hcell RU
              go_wp2_with (fail)
              refine RU1.out.mono ?_
              rintro e w8 ⟨rfl, hd8⟩
              have HQ8 : Hid (Q2 HLD.out w p S7 d9 ⟨fn, fv, fc, fp, fa⟩ (w8.alloc (.cells #[.string mn, .int .i64 mv, .string mc] 23))) := Sep.below hd8 (below_new _ _)
              have hi8 : (w8.alloc (.cells #[.string mn, .int .i64 mv, .string mc] 23)).heap[w8.heap.size]? = some (.cells #[.string mn, .int .i64 mv, .string mc] 23) := blk_new _ _
              obtain ⟨r0, r1, r2⟩ := tri_cells hi8
              clear hd8 HQ7 RU1 hi8
              go_wp2
              go_meet
              exact ⟨j, S7, d9, mv, by omega, rfl, rfl, HQ8, HV⟩
            · have hgd : gooD d = d := goo_no (fun hc => hz (gooE_zero.2 hc))
              rw [hgd, errV_no hz] at DG
              clear hgd
              go_wp2_with (fail)
              refine DG.out.mono ?_
              rintro e w7 ⟨S7, rfl, hd7⟩
              have HQ7 : Hid (Q2 HLD.out w p S7 d ⟨fn, fv, fc, fp, fa⟩ w7) := hd7
              clear hd7 DG HQ hcell
              go_wp2
              go_meet
              exact ⟨j, S7, d, g, by omega, rfl, rfl, HQ7, HP⟩
          as_aux_lemma =>
            have DT := hide (sep_sta HSL.out HQ.out (HH.out _ HQ.out.lo))
            have HV : Hid ((staD d).root = root ∧ (staD d).x = x ∧ VerD fn g (staD d)) := ⟨HP.out.1, HP.out.2.1, ver_sta HOK.out HP.out.2.2⟩
            generalize staD d = d9 at *
            generalize trialD d = tr at *
            go_wp2_with (fail)
            refine DT.out.mono ?_
            rintro e w7 ⟨S7, rfl, hd7⟩
            have HQ7 : Hid (Q2 HLD.out w p S7 d9 ⟨fn, fv, fc, fp, fa⟩ w7) := hd7
            clear hd7 DT HQ hcell
            go_wp2
            go_meet
            exact ⟨j, S7, d9, g, by omega, rfl, rfl, HQ7, HV⟩
        case rest =>
        obtain ⟨j2, S2, d2, g2, hj2, rfl, rfl, HQ2, HP2⟩ := hcut
        clear HQ HP HOK hcell
        as_aux_lemma =>
          have HOK2 := hide (HLD.out.ok HQ2.out.dv)
          have RU := hide (sep_run HRL.out HQ2.out)
          cases hon : d2.on with
          | false =>
            rw [hon, show runD d2 = 6 by unfold runD; rw [hon]; rfl, errV_no (show ¬ (6 : Int) = 0 by decide)] at RU
            simp only [Bool.false_eq_true, if_false] at RU
            clear hon
            go_wp2_with (fail)
            refine RU.out.mono ?_
            rintro e w7 ⟨rfl, hd7⟩
            have HQ7 : Hid (Q2 HLD.out w p S2 d2 ⟨fn, fv, fc, fp, fa⟩ (w7.alloc (.cells #[.string { data := #[] }, .int .i64 0, .string { data := #[] }] 23))) := Sep.below hd7 (below_new _ _)
            clear hd7 RU HQ2
            go_wp2
            go_roundw
            case rel => exact ⟨i + 1, j2, S2, d2, g2, by omega, by omega, rfl, rfl, by go_num, HQ7.out, HP2.out⟩
            case measure => simp [intOf]; omega
          | true =>
            rw [hon, show runD d2 = 0 by unfold runD; rw [hon]; rfl, errV_zero] at RU
            simp only [if_true] at RU
            obtain ⟨v1, v2, _, v4⟩ := ver_on HOK2.out HP2.out.2.2 hon
            have hnv : ¬ d2.v < g2 := by omega
            have TS := hide (fun (ht : telD d2 k i 1 = 0) => tel_sure HOK2.out hon ht)
            rw [HP2.out.2.1] at TS
            have TE := hide (fun (W : World) (its : List (Thing w.heap.size)) (h : M.Sep w w.heap.size (dvcI HLD.out w.heap.size p S2 d2 :: its) W) => sep_tel HTL.out h k i 1 (HH.out _ h.lo))
            have MS := hide (fun (W : World) (h : Below w.heap.size w W) => measure_any d2.nm d2.cd d2.v W (by have := (imgE_zero v4).2.2.2.1; omega) (by have := (imgE_zero v4).2.2.2.2.1; omega) (HH.out _ h))
            rw [v4, errV_zero] at MS
            unfold imgC at MS
            rw [v2] at RU MS TS
            clear v1 v2 v4 hon HOK2
            generalize d2.v = mv at *
            generalize d2.cd = mc at *
            go_wp2_with (fail)
            refine RU.out.mono ?_
            rintro e w7 ⟨rfl, hd7⟩
            have hz7 : w.heap.size ≤ w7.heap.size := hd7.hb
            have hsx := (hd7.allocz hz7 (.cells #[.string fn, .int .i64 mv, .string mc] 23)).perm (List.Perm.swap _ _ _)
            have HS7 := hide hsx
            have hi7 : (w7.alloc (.cells #[.string fn, .int .i64 mv, .string mc] 23)).heap[w7.heap.size]? = some (.cells #[.string fn, .int .i64 mv, .string mc] 23) := blk_new _ _
            obtain ⟨r0, r1, r2⟩ := tri_cells hi7
            have hf7 : (w7.alloc (.cells #[.string fn, .int .i64 mv, .string mc] 23)).heap[w.heap.size]? = some (.cells #[.string fn, .int .i64 fv, .string fc, .int .i64 fp, .int .i64 fa] 27) := hsx.p2
            obtain ⟨q0, q1, q2, q3, q4⟩ := quin_cells hf7
            have TE1 := hide (TE.out _ _ HS7.out)
            clear hd7 hsx hi7 hf7 RU HQ2 TE HS7
            by_cases ht : telD d2 k i 1 = 0
            · obtain ⟨ts1, ts2⟩ := TS.out ht
              rw [ht, errV_zero, ts1] at TE1
              have SU := hide (fun (W : World) (a : Option Addr) (cap : Nat) (h : RRow 2 evV W a [(0, meaV fn mv mc)]) => HJL.out (pwZ 64 x) (telQ d2 k i 1) i a [(0, meaV fn mv mc)] 1 cap none [] 0 0 W rfl (by unfold maxLen; omega) h rfl (by unfold maxLen; omega) (by omega) ⟨RRow.nil _ _, fun c hc => by cases hc⟩)
              rw [ts1] at ts2
              have ts3 : surE (pwZ 64 x) (telQ d2 k i 1) i [(0, meaV fn mv mc)] (rulesL []) = 0 := ts2
              rw [ts3, errV_zero] at SU
              clear ts1 ts2 ts3 TS
              generalize telQ d2 k i 1 = tq at *
              obtain ⟨u0, u1, u2, u3, u4⟩ := tq
              simp only [] at TE1 SU
              generalize meaV fn mv mc = mm at *
              go_wp2_with (fail)
              refine TE1.out.mono ?_
              rintro e w8 ⟨ae, ce, rfl, hr8, hd8⟩
              have HS8 := hide (Sep.below hd8 (below_new w8 (.cells #[.int .i64 u0, .int .i64 u1, .int .i64 u2, .int .i64 u3, .int .i64 u4] 45)))
              have HR8 := hide (hr8.below (below_new w8 (.cells #[.int .i64 u0, .int .i64 u1, .int .i64 u2, .int .i64 u3, .int .i64 u4] 45)))
              have HK8 := hide (blk_new w8 (.cells #[.int .i64 u0, .int .i64 u1, .int .i64 u2, .int .i64 u3, .int .i64 u4] 45))
              have hi8 : (w8.alloc (.cells #[.int .i64 u0, .int .i64 u1, .int .i64 u2, .int .i64 u3, .int .i64 u4] 45)).heap[w7.heap.size]? = some (.cells #[.string fn, .int .i64 mv, .string mc] 23) := HS8.out.p1
              clear hr8 hd8 TE1 r0 r1 r2 q0 q1 q2 q3 q4
              obtain ⟨r0, r1, r2⟩ := tri_cells hi8
              clear hi8
              go_wp2_with (fail)
              refine (MS.out _ HS8.out.lo).mono ?_
              rintro e w9 ⟨rfl, hb9⟩
              have HS9 := hide (HS8.out.below hb9)
              have hr9 := HR8.out.below hb9
              have HR9 := hide hr9
              have hk9 := blk_below HK8.out hb9
              obtain ⟨k0, k1, k2, k3, k4⟩ := quin_cells hk9
              obtain ⟨eb, eo, rfl, ec⟩ := ev_one hr9
              clear hb9 HS8 HR8 HK8 hr9 hk9 MS r0 r1 r2
              go_wp2_with (fail)
              refine (SU.out _ _ _ HR9.out).mono ?_
              rintro e w10 ⟨rfl, hb10⟩
              have HS10 := hide (HS9.out.below hb10)
              have HQ10 : Hid (Q2 HLD.out w p S2 d2 ⟨fn, fv, fc, fp, fa⟩ w10) := Sep.tail (HS10.out.perm (List.Perm.swap _ _ _))
              clear hb10 HS9 HS10 HR9 SU ec k0 k1 k2 k3 k4
              go_wp2
              go_roundw
              case rel => exact ⟨i + 1, j2, S2, d2, g2, by omega, by omega, rfl, rfl, by go_num, HQ10.out, HP2.out⟩
              case measure => simp [intOf]; omega
            · rw [errV_no ht] at TE1
              clear TS MS
              generalize telQ d2 k i 1 = tq at *
              obtain ⟨u0, u1, u2, u3, u4⟩ := tq
              simp only [] at TE1
              go_wp2_with (fail)
              refine TE1.out.mono ?_
              rintro e w8 ⟨ae, ce, rfl, hr8, hd8⟩
              have HQ8 : Hid (Q2 HLD.out w p S2 d2 ⟨fn, fv, fc, fp, fa⟩ (w8.alloc (.cells #[.int .i64 u0, .int .i64 u1, .int .i64 u2, .int .i64 u3, .int .i64 u4] 45))) := Sep.tail ((Sep.below hd8 (below_new _ _)).perm (List.Perm.swap _ _ _))
              clear hr8 hd8 TE1 r0 r1 r2 q0 q1 q2 q3 q4
              go_wp2
              go_roundw
              case rel => exact ⟨i + 1, j2, S2, d2, g2, by omega, by omega, rfl, rfl, by go_num, HQ8.out, HP2.out⟩
              case measure => simp [intOf]; omega
      · by_cases hin : i < n3
        · have hinz : (i : Int) < n3 := by omega
          have hi50z : ¬ (i : Int) < 50 := by omega
          clear hlt
          go_wp2
          go_ret
          exact ⟨rfl, HQ.out.lo⟩
        · have hinz : ¬ (i : Int) < n3 := by omega
          clear hlt
          go_wp2
          go_ret
          exact ⟨rfl, HQ.out.lo⟩
  · have NO1 := hide (NO.out w5 hE)
    rw [errV_no hE] at NO1
    clear NO NW
    go_wp2_with (fail)
    refine NO1.out.mono ?_
    rintro e w6 ⟨rfl, hb6⟩
    have HS6 := hide (HS5x.out.below hb6)
    go_wp2
    go_ret
    exact ⟨rfl, HS6.out.lo⟩
end Go.Proofs.YtojdaifnljghkabGreatDoor.DeviceNever
