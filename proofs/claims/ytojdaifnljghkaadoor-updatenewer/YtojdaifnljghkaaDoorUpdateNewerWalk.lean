/-
  The walk of stairlaw2.UpdateNewer: it returns true, and memory that was there stays as it was.
-/
import Derived.Test.YtojdaifnljghkaaDoorSign1
import Derived.Test.YtojdaifnljghkaaDoorCert1
import Derived.Test.YtojdaifnljghkaaDoorUpdLaw
import Derived.Test.YtojdaifnljghkaaDoorSep
import Derived.Test.YtojdaifnljghkaaDoorAs
namespace Go.Proofs.YtojdaifnljghkaaDoor.UpdateNewer
open Go.ChangeShapes Go.WideShapes Go.ChangeAt Go.RowKit
open Go.Proofs.YtojdaifnljghkaaDoor.M Go.Proofs.YtojdaifnljghkaaDoor.Key Go.Proofs.YtojdaifnljghkaaDoor.Image
set_option linter.unusedVariables false

def osB : ByteArray := { data := #[111, 115] }
def noB : ByteArray := { data := #[] }
theorem img_os (v : Int) (h : v = 1 ∨ v = 2) : imgE osB v noB = 0 := by rcases h with rfl | rfl <;> decide +kernel
theorem sgn_os (v : Int) (h : v = 1 ∨ v = 2) : sgnE 5 7 osB v noB = 0 := by rw [sgnE_ok (img_os v h), sigC_ok rfl rfl (mea_is _ _ _)]
theorem name_os : nameB osB = true := by decide +kernel
def aS : Sg := sgO 5 7 osB 1 noB
def bS : Sg := sgO 5 7 osB 2 noB
theorem last_own (x : Int) : lastC (pwZ 64 x) [] = 0 ∧ lastV (pwZ 64 x) [] = pwZ 64 x := by
  rw [(lastV_nil _).2, (lastV_nil _).1, if_pos (pwZ_in x), if_pos (pwZ_in x)]
  exact ⟨rfl, rfl⟩
theorem fact_ab : updE (pwZ 64 5) [] (fun _ => 0) aS bS = 0 := by
  rw [upd_may (last_own 5).1 (by rw [(last_own 5).2]; exact own_sld (sgn_os 2 (Or.inr rfl))) (new_ok (next := bS) (now := aS) (img_os 2 (Or.inr rfl)) (img_os 1 (Or.inl rfl)) rfl) (by show (1 : Int) < 2; omega)]
  show mayE (fun _ => 0) osB 2 = 0
  unfold mayE
  rw [if_pos name_os]
  rfl
theorem fact_ba : updE (pwZ 64 5) [] (fun _ => 0) bS aS = 9 :=
  upd_old (last_own 5).1 (by rw [(last_own 5).2]; exact own_sld (sgn_os 1 (Or.inl rfl))) (new_ok (img_os 1 (Or.inl rfl)) (img_os 2 (Or.inr rfl)) rfl) (by show ¬ (2 : Int) < 1; omega)
theorem sz_os (v p a : Int) : szS ⟨osB, v, noB, p, a⟩ := ⟨show osB.size ≤ 140737488351232 by decide, show noB.size ≤ 140737488351232 by decide⟩

/-- Two signed images in their blocks, and all that was there is as it was. -/
structure Two (w0 : World) (now next : Sg) (W : World) : Prop where
  lo : Below w0.heap.size w0 W
  x : W.heap[w0.heap.size]? = some (.cells #[.string now.nm, .int .i64 now.v, .string now.cd, .int .i64 now.p, .int .i64 now.a] 52)
  y : W.heap[w0.heap.size + 1]? = some (.cells #[.string next.nm, .int .i64 next.v, .string next.cd, .int .i64 next.p, .int .i64 next.a] 52)
section
variable {w0 W W' : World} {now next : Sg}
theorem Two.below (h : Two w0 now next W) (hb : Below W.heap.size W W') : Two w0 now next W' := ⟨below_on h.lo hb, blk_below h.x hb, blk_below h.y hb⟩
theorem Two.only {B : Nat} {S : Nat → Prop} (h : Two w0 now next W) (ho : Only S W W') (hB : w0.heap.size + 2 ≤ B) (hS : ∀ b, S b → B ≤ b) : Two w0 now next W' :=
  ⟨h.lo.trans (ho.below h.lo.size (fun k hk => by have := hS k hk; omega)), ho.heap h.x (fun hs => by have := hS _ hs; omega), ho.heap h.y (fun hs => by have := hS _ hs; omega)⟩
theorem Two.size (h : Two w0 now next W) : w0.heap.size + 2 ≤ W.heap.size := by have := blk_lt h.y; omega
end
theorem newV_ok {s t : Sg} (h : newS s t = 0) (hv : t.v < s.v) : newV s.nm s.v s.cd t.nm t.v t.cd = true := by
  unfold newV
  rw [show newE s.nm s.v s.cd t.nm t.v t.cd = 0 from h]
  simp [hv]

set_option maxRecDepth 20000 in
set_option maxHeartbeats 8000000 in
theorem walk {Cnt : World → Nat → Value → (Nat → Prop) → (ByteArray → Int) → Nat → Prop} {Slt : World → Nat → Value → (Nat → Prop) → St → Prop} (LC : Count.Core Cnt) (CR : Count.RaiseLaw Cnt) (CL : Count.LeastLaw Cnt) (LS : Slot.Core Slt) (SS : Slot.StartLaw Slt) (SG : Slot.GoodLaw Slt) (UM : Update.MayLaw Cnt) (UD : Update.DoLaw Cnt Slt)
    (root v : Int) (a : Option Addr) (l : List (Int × Int × Int)) (n cap : Nat) (now next : Sg) (w : World) (hn : n = l.length) (hm : n ≤ maxLen) (hr : RRow 3 certV w a l) (h1 : szS now) (h2 : szS next) (hh : Has w) (hg : As.Handle w) :
    Calls Tryd.prog 6 #[.int .i64 root, .slice a n cap, sgA now, sgA next, .int .i64 v] w fun e w' => e = .returned (.bool true) ∧ Below w.heap.size w w' := by
  have HT : Hid (Two w now next ((w.alloc (.cells #[.string now.nm, .int .i64 now.v, .string now.cd, .int .i64 now.p, .int .i64 now.a] 52)).alloc (.cells #[.string next.nm, .int .i64 next.v, .string next.cd, .int .i64 next.p, .int .i64 next.a] 52))) := by
    have q := blk_new (w.alloc (.cells #[.string now.nm, .int .i64 now.v, .string now.cd, .int .i64 now.p, .int .i64 now.a] 52)) (.cells #[.string next.nm, .int .i64 next.v, .string next.cd, .int .i64 next.p, .int .i64 next.a] 52)
    exact ⟨below_on (below_new _ _) (below_new _ _), blk_below (blk_new _ _) (below_new _ _), by simpa using q⟩
  have HH := hide (fun (W : World) (h : Below w.heap.size w W) => hh.below h)
  have HG := hide (fun (W : World) (h : Below w.heap.size w W) => hg.below h)
  have HLC := hide LC
  have HLS := hide LS
  have HUM := hide UM
  have HCR := hide CR
  have HCL := hide CL
  have HSS := hide SS
  have HSG := hide SG
  have HUD := hide UD
  have HSZ1 := hide h1
  have HSZ2 := hide h2
  have HR := hide (fun (W : World) (h : Below w.heap.size w W) => hr.below h)
  have HN := hide hn
  have HM := hide hm
  have NC := hide (fun (W : World) (h : w.heap.size + 2 ≤ W.heap.size) => LC.new W (w.heap.size + 2) h)
  have P5 := hide (fun (W : World) => public_ok 5 W rfl)
  have M1 := hide (fun (W : World) (h : Has W) => Sign.make_any 5 7 1 osB noB W (by decide) (by decide) h)
  have M2 := hide (fun (W : World) (h : Has W) => Sign.make_any 5 7 2 osB noB W (by decide) (by decide) h)
  rw [mkS_ok (sgn_os 1 (Or.inl rfl)), sgn_os 1 (Or.inl rfl), errV_zero] at M1
  rw [mkS_ok (sgn_os 2 (Or.inr rfl)), sgn_os 2 (Or.inr rfl), errV_zero] at M2
  have U1 := hide (fun (W : World) (p : Value) (S : Nat → Prop) (e1 : Has W) (e2 : Cnt W (w.heap.size + 2) p S (fun _ => 0) 0) => UM (pwZ 64 5) none [] 0 0 p S (fun _ => 0) 0 aS bS W (w.heap.size + 2) rfl (by unfold maxLen; omega) (RRow.nil _ _) e1 e2 (sz_os _ _ _) (sz_os _ _ _))
  have U2 := hide (fun (W : World) (p : Value) (S : Nat → Prop) (e1 : Has W) (e2 : Cnt W (w.heap.size + 2) p S (fun _ => 0) 0) => UM (pwZ 64 5) none [] 0 0 p S (fun _ => 0) 0 bS aS W (w.heap.size + 2) rfl (by unfold maxLen; omega) (RRow.nil _ _) e1 e2 (sz_os _ _ _) (sz_os _ _ _))
  rw [fact_ab, errV_zero] at U1
  rw [fact_ba, errV_ne (by decide)] at U2
  unfold sgA aS bS sgO at U1 U2
  simp only [] at U1 U2
  unfold sgnC at M1 M2
  unfold imgC at M1 M2
  generalize sigP 5 7 (meaV osB 1 noB) = p1 at *
  generalize sigA 5 7 (meaV osB 1 noB) = s1 at *
  generalize sigP 5 7 (meaV osB 2 noB) = p2 at *
  generalize sigA 5 7 (meaV osB 2 noB) = s2 at *
  generalize pwZ 64 5 = q5 at *
  unfold osB noB at M1 M2 U1 U2
  unfold sgA
  clear hh hg LC LS UM UD CR CL SS SG h1 h2 hr hn hm
  go_enter Tryd.func6, Tryd.ntmps6
  go_wp2_with (fail)
  refine (NC.out _ HT.out.size).mono ?_
  rintro e w1 ⟨co, So, rfl, hn1, _, hb1⟩
  have HT1 := hide (HT.out.below hb1)
  have HC1 := hide hn1
  clear hb1 hn1 HT
  go_wp2_with (fail)
  refine (P5.out _).mono ?_
  rintro e w1' ⟨rfl, hw⟩
  rw [hw]
  clear hw P5
  go_wp2_with (fail)
  refine (M1.out _ (HH.out _ HT1.out.lo)).mono ?_
  rintro e w2 ⟨rfl, hb2⟩
  have hq2 := below_on hb2 (below_new w2 (.cells #[.string { data := #[111, 115] }, .int .i64 1, .string { data := #[] }, .int .i64 p1, .int .i64 s1] 52))
  have HT2 := hide (HT1.out.below hq2)
  have HC2 := hide (HLC.out.below HC1.out hq2)
  have HA2 := hide (blk_new w2 (.cells #[.string { data := #[111, 115] }, .int .i64 1, .string { data := #[] }, .int .i64 p1, .int .i64 s1] 52))
  clear hb2 hq2 HT1 HC1 M1
  go_wp2_with (fail)
  refine (M2.out _ (HH.out _ HT2.out.lo)).mono ?_
  rintro e w3 ⟨rfl, hb3⟩
  have hq3 := below_on hb3 (below_new w3 (.cells #[.string { data := #[111, 115] }, .int .i64 2, .string { data := #[] }, .int .i64 p2, .int .i64 s2] 52))
  have HT3 := hide (HT2.out.below hq3)
  have HC3 := hide (HLC.out.below HC2.out hq3)
  have HA3 := hide (blk_below HA2.out hq3)
  have HD3 := hide (blk_new w3 (.cells #[.string { data := #[111, 115] }, .int .i64 2, .string { data := #[] }, .int .i64 p2, .int .i64 s2] 52))
  have hlt : w2.heap.size < w3.heap.size := by have := hb3.size; simp at this; omega
  obtain ⟨a0, a1, a2, a3, a4⟩ := cells5 HA3.out
  obtain ⟨d0, d1, d2, d3, d4⟩ := cells5 HD3.out
  clear hb3 hq3 HT2 HC2 M2 HA2
  go_wp2_with (fail)
  refine (U1.out _ co So (HH.out _ HT3.out.lo) HC3.out).mono ?_
  rintro e w4 ⟨rfl, hb4⟩
  have HT4 := hide (HT3.out.below hb4)
  have HC4 := hide (HLC.out.below HC3.out hb4)
  have HA4 := hide (blk_below HA3.out hb4)
  have HD4 := hide (blk_below HD3.out hb4)
  clear hb4 HT3 HC3 HA3 HD3 U1 a0 a1 a2 a3 a4 d0 d1 d2 d3 d4
  obtain ⟨a0, a1, a2, a3, a4⟩ := cells5 HA4.out
  obtain ⟨d0, d1, d2, d3, d4⟩ := cells5 HD4.out
  go_wp2_with (fail)
  refine (U2.out _ co So (HH.out _ HT4.out.lo) HC4.out).mono ?_
  rintro e w5 ⟨rfl, hb5⟩
  have HT5 := hide (HT4.out.below hb5)
  clear hb5 HT4 HC4 HA4 HD4 U2 a0 a1 a2 a3 a4 d0 d1 d2 d3 d4
  go_wp2_with (fail)
  refine (As.same_err 9 9 _ (HG.out _ HT5.out.lo)).mono ?_
  rintro e w6 ⟨rfl, hb6⟩
  have HT6 := hide (HT5.out.below hb6)
  clear hb6 HT5
  go_wp2_with (fail)
  refine (NC.out _ HT6.out.size).mono ?_
  rintro e w7 ⟨c, Sc, rfl, hn7, _, hb7⟩
  have HT7 := hide (HT6.out.below hb7)
  have HC7 := hide hn7
  clear hb7 hn7 HT6 NC
  obtain ⟨y0, y1, y2, y3, y4⟩ := cells5 HT7.out.y
  go_wp2_with (fail)
  refine (HCR.out c Sc _ _ next.nm v _ _ HC7.out HSZ2.out.1 HT7.out.size).mono ?_
  rintro e w8 ⟨Sc', rfl, hn8, ho8, hf8⟩
  have HT8 := hide (HT7.out.only ho8 (Nat.le_refl _) (fun b hb => (HLC.out.has HC7.out b hb).1))
  have HC8 := hide hn8
  clear hn8 ho8 hf8 HT7 HC7 y0 y1 y2 y3 y4
  generalize raiF (fun _ => 0) 0 next.nm v = f at *
  generalize raiK (fun _ => 0) 0 next.nm v = kk at *
  obtain ⟨x0, x1, x2, x3, x4⟩ := cells5 HT8.out.x
  obtain ⟨y0, y1, y2, y3, y4⟩ := cells5 HT8.out.y
  have U3 := hide (HUM.out root a l n cap c Sc' f kk now next w8 (w.heap.size + 2) HN.out HM.out (HR.out _ HT8.out.lo) (HH.out _ HT8.out.lo) HC8.out HSZ1.out HSZ2.out)
  unfold sgA at U3
  go_wp2_with (fail)
  refine U3.out.mono ?_
  rintro e w9 ⟨rfl, hb9⟩
  have HT9 := hide (HT8.out.below hb9)
  have HC9 := hide (HLC.out.below HC8.out hb9)
  clear hb9 HT8 HC8 U3 x0 x1 x2 x3 x4 y0 y1 y2 y3 y4
  by_cases hE : updE root l f now next = 0
  · obtain ⟨z1, z2, z3, z4, z5⟩ := upd_zero hE
    obtain ⟨m1, m2, m3, m4⟩ := may_zero z5
    obtain ⟨g1, g2, g3⟩ := new_zero z3
    have HE := hide hE
    have NV := hide (newV_ok z3 z4)
    have NE := hide (show newE next.nm next.v next.cd now.nm now.v now.cd = 0 from z3)
    have LE := hide (leaE_ok (f := f) m1)
    have CK := hide (fun (W : World) (h : Has W) => Sign.check_any (lastV root l) next.v next.p next.a next.nm next.cd W HSZ2.out.1 HSZ2.out.2 h)
    rw [show sldE (lastV root l) next.nm next.v next.cd next.p next.a = 0 from z2, errV_zero] at CK
    have LT := hide (fun (W : World) (h : Below w.heap.size w W) => Cert.last_any root a l n cap W HN.out HM.out (HR.out W h))
    rw [z1, errV_zero] at LT
    have NW := hide (fun (W : World) => newer_any next.nm next.cd now.nm now.cd next.v now.v W HSZ2.out.1 HSZ2.out.2 HSZ1.out.1 HSZ1.out.2)
    rw [NV.out, NE.out, errV_zero] at NW
    unfold imgC at NW
    unfold sgnC at CK
    have LS' := hide (fun (W : World) (h : Cnt W (w.heap.size + 2) c Sc' f kk) => HCL.out c Sc' f kk next.nm W _ h HSZ2.out.1)
    rw [LE.out.1, LE.out.2, errV_zero] at LS'
    have SN := hide (fun (W : World) (h : w.heap.size + 2 ≤ W.heap.size) => HLS.out.new now W (w.heap.size + 2) HSZ1.out g2 h)
    unfold sgA at SN
    rw [hE, errV_zero]
    have hmz : ¬ next.v < f next.nm := by omega
    clear hE z1 z2 z3 z4 z5 m1 m2 m3 m4 g1 g2 g3 NV NE LE
    generalize f next.nm = fl at *
    generalize lastV root l = lv at *
    obtain ⟨x0, x1, x2, x3, x4⟩ := cells5 HT9.out.x
    obtain ⟨y0, y1, y2, y3, y4⟩ := cells5 HT9.out.y
    go_wp2_with (fail)
    refine (NW.out _).mono ?_
    rintro e w10 ⟨rfl, hb10⟩
    have HT10 := hide (HT9.out.below hb10)
    have HC10 := hide (HLC.out.below HC9.out hb10)
    clear hb10 HT9 HC9 NW x0 x1 x2 x3 x4 y0 y1 y2 y3 y4
    go_wp2_with (fail)
    refine (LT.out _ HT10.out.lo).mono ?_
    rintro e w11 ⟨rfl, hb11⟩
    have HT11 := hide (HT10.out.below hb11)
    have HC11 := hide (HLC.out.below HC10.out hb11)
    clear hb11 HT10 HC10 LT
    obtain ⟨y0, y1, y2, y3, y4⟩ := cells5 HT11.out.y
    go_wp2_with (fail)
    refine (LS'.out _ HC11.out).mono ?_
    rintro e w12 ⟨rfl, hb12⟩
    have HT12 := hide (HT11.out.below hb12)
    have HC12 := hide (HLC.out.below HC11.out hb12)
    clear hb12 HT11 HC11 LS' y0 y1 y2 y3 y4
    obtain ⟨y0, y1, y2, y3, y4⟩ := cells5 HT12.out.y
    go_wp2_with (fail)
    refine (CK.out _ (HH.out _ HT12.out.lo)).mono ?_
    rintro e w13 ⟨rfl, hb13⟩
    have HT13 := hide (HT12.out.below hb13)
    have HC13 := hide (HLC.out.below HC12.out hb13)
    clear hb13 HT12 HC12 CK y0 y1 y2 y3 y4
    obtain ⟨x0, x1, x2, x3, x4⟩ := cells5 HT13.out.x
    obtain ⟨y0, y1, y2, y3, y4⟩ := cells5 HT13.out.y
    go_wp2_with (fail)
    refine (SN.out _ HT13.out.size).mono ?_
    rintro e w14 ⟨s, Ss, rfl, hn14, hf14, hb14⟩
    have HT14 := hide (HT13.out.below hb14)
    have HC14 := hide (HLC.out.below HC13.out hb14)
    have HS14 := hide hn14
    have HAP := hide (show ∀ b, Sc' b → ¬ Ss b from fun b hc hs => by have := (HLC.out.has HC13.out b hc).2; have := hf14 b hs; omega)
    clear hb14 hn14 hf14 HT13 HC13 SN x0 x1 x2 x3 x4 y0 y1 y2 y3 y4
    have D1 := hide (HUD.out root a l n cap c Sc' f kk s Ss (newT now) next w14 (w.heap.size + 2) HN.out HM.out (HR.out _ HT14.out.lo) (HH.out _ HT14.out.lo) HC14.out HS14.out (szT.new HSZ1.out) HSZ2.out HT14.out.size)
    rw [(first_do HE.out).1, (first_do HE.out).2, errV_zero] at D1
    unfold sgA at D1
    obtain ⟨y0, y1, y2, y3, y4⟩ := cells5 HT14.out.y
    go_wp2_with (fail)
    refine D1.out.mono ?_
    rintro e w15 ⟨S15, rfl, hn15, ho15, hf15⟩
    have HT15 := hide (HT14.out.only ho15 (Nat.le_refl _) (fun b hb => (HLS.out.has HS14.out b hb).1))
    have HC15 := hide (HLC.out.only HC14.out ho15 HAP.out)
    have HAP5 := hide (show ∀ b, Sc' b → ¬ S15 b from fun b hc hs => by
      rcases hf15 b hs with h | h
      · exact HAP.out b hc h
      · have := (HLC.out.has HC14.out b hc).2; omega)
    have HS15 := hide hn15
    clear hn15 ho15 hf15 D1 HT14 HC14 HS14 HAP y0 y1 y2 y3 y4
    have ST := hide (HSS.out s S15 (onT now next) w15 _ HS15.out HT15.out.size)
    rw [first_start.1, first_start.2] at ST
    unfold sgA at ST
    go_wp2_with (fail)
    refine ST.out.mono ?_
    rintro e w16 ⟨S16, rfl, hn16, ho16, hf16⟩
    have HT16 := hide (HT15.out.only ho16 (Nat.le_refl _) (fun b hb => (HLS.out.has HS15.out b hb).1))
    have HC16 := hide (HLC.out.only HC15.out ho16 HAP5.out)
    have HAP6 := hide (show ∀ b, Sc' b → ¬ S16 b from fun b hc hs => by
      rcases hf16 b hs with h | h
      · exact HAP5.out b hc h
      · have := (HLC.out.has HC15.out b hc).2; omega)
    have HS16 := hide hn16
    clear hn16 ho16 hf16 ST HT15 HC15 HS15 HAP5
    have hb17 := below_new w16 (.cells #[.string next.nm, .int .i64 next.v, .string next.cd, .int .i64 next.p, .int .i64 next.a] 52)
    have HT17 := hide (HT16.out.below hb17)
    have HC17 := hide (HLC.out.below HC16.out hb17)
    have HS17 := hide (HLS.out.below HS16.out hb17)
    obtain ⟨y0, y1, y2, y3, y4⟩ := cells5 HT16.out.y
    have hl16 : w.heap.size + 1 < w16.heap.size := blk_lt HT16.out.y
    clear hb17 HT16 HC16 HS16
    have GD := hide (HSG.out s S16 (upT now next) _ _ HS17.out HT17.out.size)
    rw [first_good.1, first_good.2, errV_zero] at GD
    go_wp2_with (fail)
    refine GD.out.mono ?_
    rintro e w18 ⟨S18, rfl, hn18, ho18, hf18⟩
    have HT18 := hide (HT17.out.only ho18 (Nat.le_refl _) (fun b hb => (HLS.out.has HS17.out b hb).1))
    have HC18 := hide (HLC.out.only HC17.out ho18 HAP6.out)
    have HS18 := hide hn18
    clear hn18 ho18 hf18 GD HT17 HC17 HS17 HAP6 y0 y1 y2 y3 y4 hl16
    have D2 := hide (HUD.out root a l n cap c Sc' f kk s S18 (inT next) next w18 (w.heap.size + 2) HN.out HM.out (HR.out _ HT18.out.lo) (HH.out _ HT18.out.lo) HC18.out HS18.out ⟨szS_none, HSZ2.out⟩ HSZ2.out HT18.out.size)
    rw [first_again HE.out, errV_ne (by decide)] at D2
    unfold sgA at D2
    obtain ⟨y0, y1, y2, y3, y4⟩ := cells5 HT18.out.y
    go_wp2_with (fail)
    refine D2.out.mono ?_
    rintro e w19 ⟨S19, rfl, _, ho19, _⟩
    have HT19 := hide (HT18.out.only ho19 (Nat.le_refl _) (fun b hb => (HLS.out.has HS18.out b hb).1))
    clear ho19 D2 HT18 HC18 HS18 y0 y1 y2 y3 y4
    go_wp2_with (fail)
    refine (As.same_err 9 9 _ (HG.out _ HT19.out.lo)).mono ?_
    rintro e w20 ⟨rfl, hb20⟩
    have HT20 := hide (HT19.out.below hb20)
    clear hb20 HT19
    go_wp2
    go_ret
    exact ⟨rfl, HT20.out.lo⟩
  · have HX := hide (errV_ne (T := 72) hE)
    rw [HX.out]
    clear hE HX
    go_wp2
    go_ret
    exact ⟨rfl, HT9.out.lo⟩
end Go.Proofs.YtojdaifnljghkaaDoor.UpdateNewer
