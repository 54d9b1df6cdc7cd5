/-
  The walk of stairlaw1.BoxOpens: it returns true, and memory that was there stays as it was.
-/
import Derived.Test.YtldckkcahlpafaaDoorBox1
import Derived.Test.YtldckkcahlpafaaDoorBank3
import Derived.Test.YtldckkcahlpafaaDoorAs
import Derived.BigQuiet
import Derived.WalkSmall
import Derived.Deep.DeepCutAuto
namespace Go.Proofs.YtldckkcahlpafaaDoor.BoxOpens
open Go.ChangeShapes Go.WideShapes Go.ChangeAt Go.RowKit
open Go.Proofs.YtldckkcahlpafaaDoor.M Go.Proofs.YtldckkcahlpafaaDoor.Box
set_option linter.unusedVariables false

/-- What the walk carries: both banks lie where they were laid, and all that was there is as it was; a box beside them. -/
def Kept (w0 : World) (bc cc : Array Value) (W : World) : Prop :=
  Below w0.heap.size w0 W ∧ W.heap[w0.heap.size]? = some (.cells bc 23) ∧ W.heap[w0.heap.size + 1]? = some (.cells cc 23)
theorem Kept.below {w0 W W' : World} {bc cc : Array Value} (h : Kept w0 bc cc W) (hb : Below W.heap.size W W') : Kept w0 bc cc W' := ⟨below_on h.1 hb, blk_below h.2.1 hb, blk_below h.2.2 hb⟩
theorem Kept.start (w : World) (bc cc : Array Value) : Kept w bc cc ((w.alloc (.cells bc 23)).alloc (.cells cc 23)) :=
  ⟨below_on (below_new _ _) (below_new _ _), blk_keep (blk_new _ _) _, blk_at⟩
def Kep (w0 : World) (bc cc : Array Value) (B : Nat) (vc : Array Value) (W : World) : Prop := Kept w0 bc cc W ∧ W.heap[B]? = some (.cells vc 41)
theorem Kep.below {w0 W W' : World} {bc cc vc : Array Value} {B : Nat} (h : Kep w0 bc cc B vc W) (hb : Below W.heap.size W W') : Kep w0 bc cc B vc W' := ⟨h.1.below hb, blk_below h.2 hb⟩
theorem fact_c : clsE 7 1 noBank = 0 := by rw [clsE_ok (by decide)]; exact digE_ok (by decide) (by decide)
theorem fact_o : opnE (clsV 7 1 noBank) noBank = 0 ∧ opnV (clsV 7 1 noBank) noBank = 7 := opn_cls fact_c (digE_ok (by decide) (by decide)) rfl
theorem same_dig {xs ys : List Int} {m : Int} (h : sameV xs ys m = true) : digE ys m = 0 := by
  unfold sameV at h
  split at h
  · rename_i hh; exact digE_ok hh.2.1 hh.2.2
  · cases h
theorem same_e (xs ys : List Int) (m : Int) : (sameE xs ys m = 0 ∨ sameE xs ys m = 1) ∧ (sameE xs ys m = 1 → sameV xs ys m = false) := by
  by_cases h : okAll xs = true ∧ okAll ys = true ∧ isMask m = true
  · rw [sameE_ok h.1 h.2.1 h.2.2]
    exact ⟨Or.inl rfl, fun e => by cases e⟩
  · exact ⟨Or.inr (sameE_bad h), fun _ => sameV_bad h⟩
theorem fact_v : ∃ a b c : Int, clsV 7 1 noBank = (a, b, c) := ⟨_, _, _, rfl⟩

set_option maxRecDepth 20000 in
set_option maxHeartbeats 4000000 in
theorem walk (s mask : Int) (xs zs : List Int) (bc cc : Array Value) (i m : Int) (w : World) (hbc : bc = bankC xs) (hcc : cc = bankC zs) (hx : xs.length = 8) (hz : zs.length = 8) (hg : As.Handle w) :
    Calls Tryd.prog 5 #[.int .i64 s, .int .i64 mask, .agg bc, .agg cc, .int .i64 i, .int .i64 m] w fun e w' => e = .returned (.bool true) ∧ Below w.heap.size w w' := by
  have HK0 := hide ((Kept.start w bc cc).below (below_new _ (.cells #[.int .i64 0, .int .i64 0, .int .i64 0, .int .i64 0, .int .i64 0, .int .i64 0, .int .i64 0, .int .i64 0] 23)))
  have HZ0 := hide (show (((w.alloc (.cells bc 23)).alloc (.cells cc 23)).alloc (.cells #[.int .i64 0, .int .i64 0, .int .i64 0, .int .i64 0, .int .i64 0, .int .i64 0, .int .i64 0, .int .i64 0] 23)).heap[w.heap.size + 1 + 1]? = some (.cells #[.int .i64 0, .int .i64 0, .int .i64 0, .int .i64 0, .int .i64 0, .int .i64 0, .int .i64 0, .int .i64 0] 23) by
    have := blk_new ((w.alloc (.cells bc 23)).alloc (.cells cc 23)) (.cells #[.int .i64 0, .int .i64 0, .int .i64 0, .int .i64 0, .int .i64 0, .int .i64 0, .int .i64 0, .int .i64 0] 23)
    simpa using this)
  have HS := hide (show bc.size = 8 by rw [hbc, bankC_size, hx])
  have HT := hide (show cc.size = 8 by rw [hcc, bankC_size, hz])
  have C1 := hide (fun W => close_any 7 1 noBank #[.int .i64 0, .int .i64 0, .int .i64 0, .int .i64 0, .int .i64 0, .int .i64 0, .int .i64 0, .int .i64 0] W rfl rfl)
  have O1 := hide (fun W => open_any (clsV 7 1 noBank) noBank #[.int .i64 0, .int .i64 0, .int .i64 0, .int .i64 0, .int .i64 0, .int .i64 0, .int .i64 0, .int .i64 0] W rfl rfl)
  have CL := hide (fun W => close_any s mask xs bc W hbc hx)
  have OB := hide (fun W => open_any (clsV s mask xs) xs bc W hbc hx)
  have OC := hide (fun W => open_any (clsV s mask xs) zs cc W hcc hz)
  have OD := hide (fun W => open_any (clsV s mask xs) (extV xs i m) _ W rfl (extV_len hx i m))
  have SM := hide (fun W => Bank.same_any xs zs bc cc mask W hbc hcc hx hz)
  have SD := hide (fun W => Bank.same_any xs (extV xs i m) bc _ mask W hbc rfl hx (extV_len hx i m))
  have EX := hide (fun W => Bank.extend_any xs bc i m W hbc hx)
  have HD := hide (show (bankC (extV xs i m)).size = 8 by rw [bankC_size, extV_len hx])
  have HX := hide hx
  have HH := hide (fun (W : World) (h : Below w.heap.size w W) => hg.below h)
  rw [fact_o.1, fact_o.2, errV_zero] at O1
  rw [fact_c, errV_zero] at C1
  obtain ⟨f0, f1, f2, hf⟩ := fact_v
  rw [hf] at C1 O1
  unfold boxC at C1 O1
  simp only [] at C1 O1
  clear hbc hcc hx hz hg hf
  go_enter Tryd.func5, Tryd.ntmps5
  go_wp2_with ((with_reducible refine Bank.wpl_load 13 ?_ ?_ _ ?_ _ _ HZ0.out rfl ?_); rfl; rfl; rfl)
  refine (C1.out _).mono ?_
  rintro e w1 ⟨rfl, hb1⟩
  have HK1 := hide ((HK0.out.below hb1).below (below_new w1 (.cells #[.int .i64 f0, .int .i64 f1, .int .i64 f2] 41)))
  have HZ1 := hide (blk_keep (blk_below HZ0.out hb1) (.cells #[.int .i64 f0, .int .i64 f1, .int .i64 f2] 41))
  clear hb1 HK0 HZ0 C1
  go_wp2_with ((with_reducible refine Bank.wpl_load 13 ?_ ?_ _ ?_ _ _ HZ1.out rfl ?_); rfl; rfl; rfl)
  refine (O1.out _).mono ?_
  rintro e w2 ⟨rfl, hb2⟩
  have HK2 := hide (HK1.out.below hb2)
  clear hb2 HK1 HZ1 O1
  have HG2 : Hid (w2.heap[w.heap.size]? = some (.cells bc 23)) := HK2.out.2.1
  go_wp2_with ((with_reducible refine Bank.wpl_load 8 ?_ ?_ _ ?_ _ _ HG2.out HS.out ?_); rfl; rfl; rfl)
  refine (CL.out _).mono ?_
  rintro e w3 ⟨rfl, hb3⟩
  have HK3 := hide (HK2.out.below hb3)
  clear hb3 HK2 HG2 CL
  rcases clsE_is s mask xs with hE | hE
  · have E0 := hide hE
    obtain ⟨hs, hd⟩ := clsE_zero hE
    obtain ⟨ho, hm⟩ := digE_zero hd
    obtain ⟨b1, b2⟩ := opn_cls hE hd rfl
    have OW := hide (fun (h : sameV xs zs mask = true) => opn_cls hE (same_dig h) (dig_same h).symm)
    have ET := hide (fun (h : extOk xs i m = true) => opn_ext HX.out hE h)
    have ES := hide (fun (h : extOk xs i m = true) => sameE_ok ho (extV_all h) hm)
    have EV := hide (fun (h : extOk xs i m = true) => sameV_ok ho (extV_all h) hm)
    rw [b1, b2, errV_zero] at OB
    rw [hE, errV_zero]
    clear hE hs hd ho hm b1 b2
    obtain ⟨⟨v0, v1, v2⟩, hv⟩ : ∃ v : Int × Int × Int, v = clsV s mask xs := ⟨_, rfl⟩
    rw [← hv] at OB OC OD OW ET ⊢
    unfold boxC at OB OC OD ⊢
    simp only [] at OB OC OD ⊢
    clear hv
    have HL4 : Hid (Kep w bc cc w3.heap.size #[.int .i64 v0, .int .i64 v1, .int .i64 v2] (w3.alloc (.cells #[.int .i64 v0, .int .i64 v1, .int .i64 v2] 41))) := ⟨HK3.out.below (below_new _ _), blk_new _ _⟩
    have HG4 : Hid ((w3.alloc (.cells #[.int .i64 v0, .int .i64 v1, .int .i64 v2] 41)).heap[w.heap.size]? = some (.cells bc 23)) := HL4.out.1.2.1
    clear HK3
    go_wp2_with ((with_reducible refine Bank.wpl_load 8 ?_ ?_ _ ?_ _ _ HG4.out HS.out ?_); rfl; rfl; rfl)
    refine (OB.out _).mono ?_
    rintro e w4 ⟨rfl, hb4⟩
    have HL5 := hide (HL4.out.below hb4)
    clear hb4 HL4 HG4 OB
    have HG5 : Hid (w4.heap[w.heap.size]? = some (.cells bc 23)) := HL5.out.1.2.1
    have HC5 : Hid (w4.heap[w.heap.size + 1]? = some (.cells cc 23)) := HL5.out.1.2.2
    go_wp2_with (first | ((with_reducible refine Bank.wpl_load 8 ?_ ?_ _ ?_ _ _ HG5.out HS.out ?_); rfl; rfl; rfl) | ((with_reducible refine Bank.wpl_load 9 ?_ ?_ _ ?_ _ _ HC5.out HT.out ?_); rfl; rfl; rfl))
    refine (SM.out _).mono ?_
    rintro e w5 ⟨rfl, hb5⟩
    have HL6 := hide (HL5.out.below hb5)
    clear hb5 HL5 HG5 HC5 SM
    have SE := hide (same_e xs zs mask)
    generalize sameE xs zs mask = se at *
    generalize sameV xs zs mask = sv at *
    go_upto_region 13 with (fail)
    go_cut [19, 22, 72, 76, 77, 78, 83] (fun _ _ _ _ _ _ s83 w' => s83 = .bool sv ∧ w' = w5)
    case first =>
      rcases SE.out.1 with rfl | rfl
      · rw [errV_zero]
        cases sv with
        | true => go_wp2; go_meet; exact ⟨rfl, rfl⟩
        | false => go_wp2; go_meet; exact ⟨rfl, rfl⟩
      · obtain rfl := SE.out.2 rfl
        rw [errV_one]
        go_wp2; go_meet; exact ⟨rfl, rfl⟩
    case rest =>
    obtain ⟨rfl, rfl⟩ := hcut
    clear SE
    go_upto_if 83 with (fail)
    go_cut [23, 24, 83] (fun _ _ _ w' => Hid (Kep w bc cc w3.heap.size #[.int .i64 v0, .int .i64 v1, .int .i64 v2] w'))
    case first =>
      cases sv with
      | false => go_wp2; go_meet; exact HL6
      | true =>
        obtain ⟨c1, c2⟩ := OW.out rfl
        rw [c1, c2, errV_zero] at OC
        obtain ⟨r0, r1, r2⟩ := tri_cells HL6.out.2
        have HC6 := hide HL6.out.1.2.2
        go_wp2_with ((with_reducible refine Bank.wpl_load 9 ?_ ?_ _ ?_ _ _ HC6.out HT.out ?_); rfl; rfl; rfl)
        refine (OC.out _).mono ?_
        rintro e w6 ⟨rfl, hb6⟩
        have HL7 := hide (HL6.out.below hb6)
        clear hb6 HL6 HC6 OC r0 r1 r2
        go_wp2
        go_meet
        exact HL7
    case rest =>
    have HL7 := hcut
    clear hcut HL6 OC OW
    have HG7 := hide HL7.out.1.2.1
    go_wp2_with ((with_reducible refine Bank.wpl_load 8 ?_ ?_ _ ?_ _ _ HG7.out HS.out ?_); rfl; rfl; rfl)
    refine (EX.out _).mono ?_
    rintro e w8 ⟨rfl, hb8⟩
    have HL8 := hide (HL7.out.below hb8)
    clear hb8 HL7 HG7 EX
    cases hok : extOk xs i m with
    | false =>
      rw [extE_bad hok, errV_one]
      clear hok
      go_wp2_with ((with_reducible refine Bank.wpl_store_new 25 102 _ _ ?_ ?_ ?_ ?_ Bank.noBank_size HD.out (Bank.bankC_one _) ?_); rfl; rfl; rfl; rfl)
      go_ret
      exact ⟨rfl, (HL8.out.below (below_new _ _)).1.1⟩
    | true =>
      have eT := ET.out hok
      have eS := ES.out hok
      have eV := EV.out hok
      rw [eS, eV, errV_zero] at SD
      rw [extE_ok hok, errV_zero]
      have HE9 := hide eT
      clear hok eT eS eV ET ES EV
      have H1 := hide (Bank.bankC_one (extV xs i m))
      generalize M.differ xs (extV xs i m) mask = df at *
      generalize bankC (extV xs i m) = dc at *
      have HL9 := hide (HL8.out.below (below_new w8 (.cells dc 23)))
      have HN9 := hide (blk_new w8 (.cells dc 23))
      have HG9 := hide HL9.out.1.2.1
      clear HL8
      go_wp2_with (first | ((with_reducible refine Bank.wpl_store_new 25 102 _ _ ?_ ?_ ?_ ?_ Bank.noBank_size HD.out H1.out ?_); rfl; rfl; rfl; rfl) | ((with_reducible refine Bank.wpl_load 8 ?_ ?_ _ ?_ _ _ HG9.out HS.out ?_); rfl; rfl; rfl) | ((with_reducible refine Bank.wpl_load 25 ?_ ?_ _ ?_ _ _ HN9.out HD.out ?_); rfl; rfl; rfl))
      refine (SD.out _).mono ?_
      rintro e w9 ⟨rfl, hb9⟩
      have HLA := hide (HL9.out.below hb9)
      have HNA := hide (blk_below HN9.out hb9)
      clear hb9 HL9 HN9 HG9 SD
      obtain ⟨r0, r1, r2⟩ := tri_cells HLA.out.2
      cases df with
      | false =>
        rw [if_neg (by decide)] at HE9
        rw [HE9.out, errV_zero] at OD
        go_wp2_with ((with_reducible refine Bank.wpl_load 25 ?_ ?_ _ ?_ _ _ HNA.out HD.out ?_); rfl; rfl; rfl)
        refine (OD.out _).mono ?_
        rintro e wA ⟨rfl, hbA⟩
        have HLB := hide (HLA.out.below hbA)
        clear hbA HLA HNA OD r0 r1 r2
        go_wp2
        go_ret
        exact ⟨rfl, HLB.out.1.1⟩
      | true =>
        rw [if_pos rfl] at HE9
        rw [HE9.out] at OD
        go_wp2_with ((with_reducible refine Bank.wpl_load 25 ?_ ?_ _ ?_ _ _ HNA.out HD.out ?_); rfl; rfl; rfl)
        refine (OD.out _).mono ?_
        rintro e wA ⟨rfl, hbA⟩
        have HLB := hide (HLA.out.below hbA)
        clear hbA HLA HNA OD r0 r1 r2
        go_wp2_with (fail)
        refine (As.same_is 8 8 _ rfl (HH.out _ HLB.out.1.1)).mono ?_
        rintro e wB ⟨rfl, hbB⟩
        have HLC := hide (HLB.out.below hbB)
        clear hbB HLB
        go_wp2
        go_ret
        exact ⟨rfl, HLC.out.1.1⟩
  · rw [hE, errV_one, clsV_no (by rw [hE]; decide)]
    unfold boxC
    simp only []
    clear hE
    go_wp2
    go_ret
    exact ⟨rfl, (HK3.out.below (below_new _ _)).1⟩
end Go.Proofs.YtldckkcahlpafaaDoor.BoxOpens
