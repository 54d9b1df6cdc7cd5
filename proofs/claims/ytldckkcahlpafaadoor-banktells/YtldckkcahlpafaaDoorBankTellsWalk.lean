/-
  The walk of stairlaw1.BankTells: it returns true for every two banks and every number, and memory that was there stays as it was.
-/
import Derived.Test.YtldckkcahlpafaaDoorRef2
import Derived.Test.YtldckkcahlpafaaDoorAs
import Derived.BigQuiet
import Derived.WalkSmall
import Derived.Deep.DeepCutAuto
namespace Go.Proofs.YtldckkcahlpafaaDoor.M

/-- Is a bank right, and yet what it is to be extended by is not? -/
def more (xs : List Int) (i m : Int) : Bool := okAll xs && !(isReg i && isM m)
theorem more_bad {xs : List Int} {i m : Int} (h : okAll xs = false) : more xs i m = false := by unfold more; rw [h]; rfl
theorem more_reg {xs : List Int} {i m : Int} (h : okAll xs = true) (hr : isReg i = false) : more xs i m = true := by unfold more; rw [h, hr]; rfl
theorem more_is {xs : List Int} {i m : Int} (h : okAll xs = true) (hr : isReg i = true) : more xs i m = !isM m := by unfold more; rw [h, hr]; rfl
theorem ext_more {xs : List Int} {i m : Int} (h : more xs i m = true) : extE xs i m = 1 := by
  apply extE_bad
  unfold more at h
  unfold extOk
  cases ho : okAll xs <;> cases hr : (isReg i && isM m) <;> simp_all
theorem ext_same {xs : List Int} {i m : Int} (h : more xs i m = false) : extE xs i m = bankE xs := by
  unfold more at h
  cases ho : okAll xs with
  | false =>
    rw [bankE_bad ho]
    apply extE_bad
    unfold extOk
    rw [ho]
    rfl
  | true =>
    rw [bankE_ok ho]
    apply extE_ok
    unfold extOk
    cases hr : (isReg i && isM m) <;> simp_all
/-- Alike as far as register n? -/
def differTo (xs ys : List Int) (m : Int) (n : Nat) : Bool := (askedL m n).any fun i => xs.getD i.toNat 0 != ys.getD i.toNat 0
theorem differTo_zero (xs ys : List Int) (m : Int) : differTo xs ys m 0 = false := rfl
theorem differTo_all (xs ys : List Int) (m : Int) : differTo xs ys m 8 = differ xs ys m := rfl
theorem differTo_miss {xs ys : List Int} {m : Int} {n : Nat} (h : bit m n = false) : differTo xs ys m (n + 1) = differTo xs ys m n := by unfold differTo; rw [askedL_miss h]
theorem differTo_hit {xs ys : List Int} {m : Int} {n : Nat} {x y : Int} (h : bit m n = true) (hx : xs[n]? = some x) (hy : ys[n]? = some y) : differTo xs ys m (n + 1) = (differTo xs ys m n || (x != y)) := by
  unfold differTo
  rw [askedL_hit h]
  simp [hx, hy]
theorem sameE_dig {xs ys : List Int} {m : Int} (h : okAll xs = true) : digE ys m = sameE xs ys m := by
  by_cases h' : okAll ys = true ∧ isMask m = true
  · rw [digE_ok h'.1 h'.2, sameE_ok h h'.1 h'.2]
  · rw [digE_bad h', sameE_bad (fun hn => h' hn.2)]
theorem sameE_one {xs ys : List Int} {m : Int} (h : okAll xs = false) : sameE xs ys m = 1 := sameE_bad (fun hn => by rw [h] at hn; exact Bool.false_ne_true hn.1)
end Go.Proofs.YtldckkcahlpafaaDoor.M

namespace Go.Proofs.YtldckkcahlpafaaDoor.BankTells
open Go.ChangeShapes Go.WideShapes Go.ChangeAt Go.RowKit
open Go.Proofs.YtldckkcahlpafaaDoor.M Go.Proofs.YtldckkcahlpafaaDoor.Bank
set_option linter.unusedVariables false

set_option maxRecDepth 20000 in
set_option maxHeartbeats 8000000 in
theorem walk (xs ys : List Int) (c d : Array Value) (i m mask : Int) (w : World) (hc : c = bankC xs) (hd : d = bankC ys) (hx : xs.length = 8) (hy : ys.length = 8) (hg : As.Handle w) :
    Calls Tryd.prog 3 #[.agg c, .int .i64 i, .int .i64 m, .int .i64 mask, .agg d] w fun e w' => e = .returned (.bool true) ∧ Below w.heap.size w w' := by
  have HC := hide hc
  have HD := hide hd
  have HX := hide hx
  have HY := hide hy
  have HH := hide hg
  have HSC := hide (show c.size = 8 by rw [hc, bankC_size, hx])
  have HSD := hide (show d.size = 8 by rw [hd, bankC_size, hy])
  have HG0 := hide (heap_alloc2_old w (.cells c 23) (.cells d 23))
  have HK0 := hide (heap_alloc2_new w (.cells c 23) (.cells d 23))
  have HB0 := hide (((Below.refl _ w).alloc (Nat.le_refl _) (.cells c 23)).alloc (by simp) (.cells d 23))
  clear hc hd hx hy hg
  go_enter Tryd.func3, Tryd.ntmps3
  go_wp2_with ((with_reducible refine wpl_load 5 ?_ ?_ _ ?_ _ _ HG0.out HSC.out ?_); rfl; rfl; rfl)
  refine (Ref.bank_any xs c _ HC.out HX.out).mono ?_
  rintro e w1 ⟨rfl, hb1⟩
  have HB1 := hide (HB0.out.trans (hb1.mono (by simp; omega)))
  have HG1 := hide (heap_below HG0.out hb1 (heap_lt HG0.out))
  have HK1 := hide (heap_below HK0.out hb1 (heap_lt HK0.out))
  clear hb1 HG0 HK0 HB0
  go_wp2_with ((with_reducible refine wpl_load 5 ?_ ?_ _ ?_ _ _ HG1.out HSC.out ?_); rfl; rfl; rfl)
  refine (check_any xs c _ HC.out HX.out).mono ?_
  rintro e w2 ⟨rfl, hb2⟩
  have HB2 := hide (HB1.out.trans (hb2.mono HB1.out.size))
  have HG2 := hide (heap_below HG1.out hb2 (heap_lt HG1.out))
  have HK2 := hide (heap_below HK1.out hb2 (heap_lt HK1.out))
  clear hb2 HG1 HK1 HB1
  go_wp2_with (fail)
  refine (As.same_is _ _ _ rfl (HH.out.below HB2.out)).mono ?_
  rintro e w3 ⟨rfl, hb3⟩
  have HB3 := hide (HB2.out.trans (hb3.mono HB2.out.size))
  have HG3 := hide (heap_below HG2.out hb3 (heap_lt HG2.out))
  have HK3 := hide (heap_below HK2.out hb3 (heap_lt HK2.out))
  clear hb3 HG2 HK2 HB2
  go_wp2_with (fail)
  refine (Ref.is_any _ _).mono ?_
  rintro e w4 ⟨rfl, rfl⟩
  go_upto_region 5 with (fail)
  go_cut [11, 13, 14, 28, 30, 31, 33, 35, 49] (fun s11 s13 _ _ _ _ _ _ s49 w5 => s11 = .int .i64 (bankE xs) ∧ s13 = .int .i64 (bankE xs) ∧ s49 = .bool (more xs i m) ∧ w5 = w4)
  case first =>
    cases ho : okAll xs with
    | false =>
      have E := hide (more_bad (i := i) (m := m) ho)
      have E1 := hide (bankE_bad ho)
      rw [bankE_bad ho]
      go_wp2
      go_meet
      exact ⟨by rw [E1.out], by rw [E1.out], by rw [E.out], rfl⟩
    | true =>
      have E1 := hide (bankE_ok ho)
      rw [bankE_ok ho]
      cases hr : isReg i with
      | false =>
        have E := hide (more_reg (m := m) ho hr)
        have hrn := isReg_false.1 hr
        clear ho hr
        by_cases hi0 : i < 0
        · clear hrn
          go_wp2
          go_meet
          exact ⟨by rw [E1.out], by rw [E1.out], by rw [E.out], rfl⟩
        · have hi8 : 7 < i := by omega
          clear hrn
          go_wp2
          go_meet
          exact ⟨by rw [E1.out], by rw [E1.out], by rw [E.out], rfl⟩
      | true =>
        have E := hide (more_is (m := m) ho hr)
        have hrr := isReg_iff.1 hr
        obtain ⟨hi0, hi8⟩ := hrr
        have hi7 : ¬ 7 < i := by omega
        have hin : ¬ i < 0 := by omega
        clear ho hr hi8
        cases hm : isM m with
        | true =>
          have E' := hide (show more xs i m = false by rw [E.out, hm]; rfl)
          go_wp2
          go_meet
          exact ⟨by rw [E1.out], by rw [E1.out], by rw [E'.out], rfl⟩
        | false =>
          have E' := hide (show more xs i m = true by rw [E.out, hm]; rfl)
          go_wp2
          go_meet
          exact ⟨by rw [E1.out], by rw [E1.out], by rw [E'.out], rfl⟩
  case rest =>
  obtain ⟨rfl, rfl, rfl, rfl⟩ := hcut
  go_upto_if 49 with (fail)
  go_cut [13, 49] (fun s13 _ w6 => s13 = .int .i64 (extE xs i m) ∧ w6 = wc)
  case first =>
    cases hmo : more xs i m with
    | true =>
      have E := hide (ext_more hmo)
      go_wp2
      go_meet
      exact ⟨by rw [E.out], rfl⟩
    | false =>
      have E := hide (ext_same hmo)
      go_wp2
      go_meet
      exact ⟨by rw [E.out], rfl⟩
  case rest =>
  obtain ⟨rfl, rfl⟩ := hcut
  obtain ⟨wa, hwa⟩ : ∃ wa, wa = wc := ⟨_, rfl⟩
  subst hwa
  have HGA := hide (heap_keep HG3.out (.cells #[.int .i64 0, .int .i64 0, .int .i64 0, .int .i64 0, .int .i64 0, .int .i64 0, .int .i64 0, .int .i64 0] 23))
  have HKA := hide (heap_keep HK3.out (.cells #[.int .i64 0, .int .i64 0, .int .i64 0, .int .i64 0, .int .i64 0, .int .i64 0, .int .i64 0, .int .i64 0] 23))
  have siza := HB3.out.size
  go_upto_if 51 with (fail)
  go_cut [13, 50, 51] (fun s13 _ _ w7 => s13 = .int .i64 (extE xs i m) ∧ Hid (Below w.heap.size w w7) ∧ Hid (w7.heap[w.heap.size]? = some (.cells c 23)) ∧ Hid (w7.heap[w.heap.size + 1]? = some (.cells d 23)) ∧ Hid (w7.heap[wa.heap.size]? = some (.cells (bankC (extV xs i m)) 23)))
  case first =>
    cases hok : extOk xs i m with
    | false =>
      have E := hide (extE_bad hok)
      have E' := hide (extV_bad hok)
      rw [extE_bad hok]
      clear hok
      go_wp2
      go_meet
      exact ⟨by rw [E.out], HB3.out.alloc siza _, HGA, HKA, by rw [E'.out]; exact heap_alloc_new wa _⟩
    | true =>
      have E := hide (extE_ok hok)
      obtain ⟨ho, hr, hm⟩ := extOk_iff.1 hok
      have hir := isReg_iff.1 hr
      obtain ⟨hi0, hi8⟩ := hir
      obtain ⟨k, rfl⟩ : ∃ k : Nat, i = k := ⟨i.toNat, by omega⟩
      have hk8 : k < 8 := by omega
      obtain ⟨x, hx⟩ : ∃ x, xs[k]? = some x := ⟨_, List.getElem?_eq_getElem (by have := HX.out; omega)⟩
      have HM := hide hm
      have HMX := hide (okAll_at ho hx)
      have HV := hide (show bankC (extV xs k m) = c.setIfInBounds k (.int .i64 (stp 7919 x m)) by
        rw [extV_ok hok, HC.out, bankC_set, Int.toNat_natCast, List.getD_eq_getElem?_getD, hx]; rfl)
      have HGC := hide (heap_keep HG3.out (.cells c 23))
      have hcb : (wa.alloc (.cells c 23)).cell? ⟨w.heap.size, k, none⟩ = some (.int .i64 x) := bank_cell (xs := xs) (t := 23) (fr := (0, 0)) (by rw [← HC.out]; exact HGC.out) hx
      have HNC := hide (heap_alloc_new wa (.cells c 23))
      have hcn : (wa.alloc (.cells c 23)).cell? ⟨wa.heap.size, k, none⟩ = some (.int .i64 x) := bank_cell (xs := xs) (t := 23) (fr := (0, 0)) (by rw [← HC.out]; exact HNC.out) hx
      have hfn : (wa.alloc (.cells c 23)).frozen? ⟨wa.heap.size, k, none⟩ = false := by unfold World.frozen?; rw [HNC.out]; simp
      have HONE := hide (show c.all (·.oneCell') = true by rw [HC.out]; exact bankC_one xs)
      rw [extE_ok hok]
      clear hok ho hr hm hx
      go_wp2_with (first | ((with_reducible refine wpl_load 5 ?_ ?_ _ ?_ _ _ HGA.out HSC.out ?_); rfl; rfl; rfl) | ((with_reducible refine wpl_store_new 15 52 _ _ ?_ ?_ ?_ ?_ noBank_size HSC.out HONE.out ?_); rfl; rfl; rfl; rfl))
      refine (Ref.two_ok x m _ HMX.out HM.out).mono ?_
      rintro e w8 ⟨rfl, rfl⟩
      go_wp2
      go_meet
      exact ⟨by rw [E.out], HB3.out.alloc siza _, heap_keep HG3.out _, heap_keep HK3.out _, by rw [HV.out]; exact heap_alloc_new wa _⟩
  case rest =>
  obtain ⟨rfl, HB7, HG7, HK7, HW7⟩ := hcut
  obtain ⟨wb, hwb⟩ : ∃ wb, wb = wc := ⟨_, rfl⟩
  subst hwb
  have HS1 := hide (show (bankC (extV xs i m)).size = 8 by rw [bankC_size, extV_len HX.out])
  clear HG3 HK3 HB3 HGA HKA siza
  go_wp2_with ((with_reducible refine wpl_load 5 ?_ ?_ _ ?_ _ _ HG7.out HSC.out ?_); rfl; rfl; rfl)
  refine (extend_any xs c i m _ HC.out HX.out).mono ?_
  rintro e w8 ⟨rfl, hb8⟩
  have HB8 := hide (HB7.out.trans (hb8.mono HB7.out.size))
  have HG8 := hide (heap_below HG7.out hb8 (heap_lt HG7.out))
  have HK8 := hide (heap_below HK7.out hb8 (heap_lt HK7.out))
  have HW8 := hide (heap_below HW7.out hb8 (heap_lt HW7.out))
  have siz8 := HB8.out.size
  clear hb8 HG7 HK7 HW7 HB7
  go_wp2_with ((with_reducible refine wpl_store_new 16 65 _ _ ?_ ?_ ?_ ?_ noBank_size HS1.out (bankC_one _) ?_); rfl; rfl; rfl; rfl)
  have HB9 := hide (HB8.out.alloc siz8 (.cells (bankC (extV xs i m)) 23))
  have HG9 := hide (heap_keep HG8.out (.cells (bankC (extV xs i m)) 23))
  have HK9 := hide (heap_keep HK8.out (.cells (bankC (extV xs i m)) 23))
  have HW9 := hide (heap_keep HW8.out (.cells (bankC (extV xs i m)) 23))
  have HX9 := hide (heap_alloc_new w8 (.cells (bankC (extV xs i m)) 23))
  clear HG8 HK8 HW8 HB8
  refine (As.same_is _ _ _ rfl (HH.out.below HB9.out)).mono ?_
  rintro e w10 ⟨rfl, hb10⟩
  have HB10 := hide (HB9.out.trans (hb10.mono HB9.out.size))
  have HG10 := hide (heap_below HG9.out hb10 (heap_lt HG9.out))
  have HK10 := hide (heap_below HK9.out hb10 (heap_lt HK9.out))
  have HW10 := hide (heap_below HW9.out hb10 (heap_lt HW9.out))
  have HX10 := hide (heap_below HX9.out hb10 (heap_lt HX9.out))
  clear hb10 HG9 HK9 HW9 HX9 HB9
  have heq : ∀ w, (Op.equalIn 10000 23 (.agg (bankC (extV xs i m))) (.agg (bankC (extV xs i m)))).run Tryd.prog w = .ok true w := fun w => by
    rw [eq_bank (extV_len HX.out i m) (extV_len HX.out i m) w, decide_eq_true rfl]
  go_wp2_with (first | ((with_reducible refine wpl_load 16 ?_ ?_ _ ?_ _ _ HX10.out HS1.out ?_); rfl; rfl; rfl) | ((with_reducible refine wpl_load 15 ?_ ?_ _ ?_ _ _ HW10.out HS1.out ?_); rfl; rfl; rfl) | ((with_reducible refine wpl_load 5 ?_ ?_ _ ?_ _ _ HG10.out HSC.out ?_); rfl; rfl; rfl))
  clear HW10 HX10 heq HS1
  refine (Ref.digested_any xs c mask _ HC.out HX.out).mono ?_
  rintro e w11 ⟨rfl, hb11⟩
  have HB11 := hide (HB10.out.trans (hb11.mono HB10.out.size))
  have HG11 := hide (heap_below HG10.out hb11 (heap_lt HG10.out))
  have HK11 := hide (heap_below HK10.out hb11 (heap_lt HK10.out))
  clear hb11 HG10 HK10 HB10
  go_upto_if 79 with (fail)
  go_cut [13, 19, 77, 78, 79] (fun s13 s19 _ _ _ w12 => s13 = .int .i64 (digE xs mask) ∧ s19 = .int .i64 (digV xs mask) ∧ Hid (Below w.heap.size w w12) ∧ Hid (w12.heap[w.heap.size]? = some (.cells c 23)) ∧ Hid (w12.heap[w.heap.size + 1]? = some (.cells d 23)))
  case first =>
    by_cases h : okAll xs = true ∧ isMask mask = true
    · have H := hide h
      have E := hide (digE_ok h.1 h.2)
      have E' := hide (digV_ok h.1 h.2)
      rw [digE_ok h.1 h.2]
      clear h
      go_wp2_with ((with_reducible refine wpl_load 5 ?_ ?_ _ ?_ _ _ HG11.out HSC.out ?_); rfl; rfl; rfl)
      refine (Ref.digest_ok xs c mask _ HC.out HX.out H.out.1 H.out.2).mono ?_
      rintro e w12 ⟨rfl, hb12⟩
      have HB12 := hide (HB11.out.trans (hb12.mono HB11.out.size))
      have HG12 := hide (heap_below HG11.out hb12 (heap_lt HG11.out))
      have HK12 := hide (heap_below HK11.out hb12 (heap_lt HK11.out))
      clear hb12
      go_wp2
      go_meet
      exact ⟨by rw [E.out], by rw [E'.out], HB12, HG12, HK12⟩
    · have E := hide (digE_bad h)
      have E' := hide (digV_bad h)
      rw [digE_bad h]
      clear h
      go_wp2
      go_meet
      exact ⟨by rw [E.out], by rw [E'.out], HB11, HG11, HK11⟩
  case rest =>
  obtain ⟨rfl, rfl, HB12, HG12, HK12⟩ := hcut
  obtain ⟨wd, hwd⟩ : ∃ wd, wd = wc := ⟨_, rfl⟩
  subst hwd
  clear HG11 HK11 HB11
  go_wp2_with ((with_reducible refine wpl_load 5 ?_ ?_ _ ?_ _ _ HG12.out HSC.out ?_); rfl; rfl; rfl)
  refine (digest_any xs c mask _ HC.out HX.out).mono ?_
  rintro e w13 ⟨rfl, hb13⟩
  have HB13 := hide (HB12.out.trans (hb13.mono HB12.out.size))
  have HG13 := hide (heap_below HG12.out hb13 (heap_lt HG12.out))
  have HK13 := hide (heap_below HK12.out hb13 (heap_lt HK12.out))
  clear hb13 HG12 HK12 HB12
  go_wp2_with (fail)
  refine (As.same_is _ _ _ rfl (HH.out.below HB13.out)).mono ?_
  rintro e w14 ⟨rfl, hb14⟩
  have HB14 := hide (HB13.out.trans (hb14.mono HB13.out.size))
  have HG14 := hide (heap_below HG13.out hb14 (heap_lt HG13.out))
  have HK14 := hide (heap_below HK13.out hb14 (heap_lt HK13.out))
  clear hb14 HG13 HK13 HB13
  go_upto_if 99 with (fail)
  go_cut [11, 13, 97, 98, 99] (fun _ s13 _ _ _ w15 => s13 = .int .i64 (sameE xs ys mask) ∧ Hid (Below w.heap.size w w15) ∧ Hid (w15.heap[w.heap.size]? = some (.cells c 23)) ∧ Hid (w15.heap[w.heap.size + 1]? = some (.cells d 23)))
  case first =>
    cases ho : okAll xs with
    | true =>
      have E := hide (sameE_dig (ys := ys) (m := mask) ho)
      rw [bankE_ok ho]
      clear ho
      go_wp2_with ((with_reducible refine wpl_load 9 ?_ ?_ _ ?_ _ _ HK14.out HSD.out ?_); rfl; rfl; rfl)
      refine (Ref.digested_any ys d mask _ HD.out HY.out).mono ?_
      rintro e w15 ⟨rfl, hb15⟩
      have HB15 := hide (HB14.out.trans (hb15.mono HB14.out.size))
      have HG15 := hide (heap_below HG14.out hb15 (heap_lt HG14.out))
      have HK15 := hide (heap_below HK14.out hb15 (heap_lt HK14.out))
      clear hb15
      go_wp2
      go_meet
      exact ⟨by rw [E.out], HB15, HG15, HK15⟩
    | false =>
      have E := hide (sameE_one (ys := ys) (m := mask) ho)
      rw [bankE_bad ho]
      clear ho
      go_wp2
      go_meet
      exact ⟨by rw [E.out], HB14, HG14, HK14⟩
  case rest =>
  obtain ⟨rfl, HBE, HGE, HKE⟩ := hcut
  obtain ⟨we, hwe⟩ : ∃ we, we = wc := ⟨_, rfl⟩
  subst hwe
  clear HG14 HK14 HB14
  by_cases h : okAll xs = true ∧ okAll ys = true ∧ isMask mask = true
  · have hm01 := isMask_iff.1 h.2.2
    obtain ⟨hm0, hm1⟩ := hm01
    have EV := hide (sameV_ok h.1 h.2.1 h.2.2)
    have EE := hide (sameE_ok h.1 h.2.1 h.2.2)
    rw [sameE_ok h.1 h.2.1 h.2.2]
    clear h
    go_wp2
    go_loopw [22, 23] (fun s22 s23 wr => ∃ k : Nat, k ≤ 8 ∧ s23 = .int .i64 k ∧ s22 = .bool (!differTo xs ys mask k) ∧ Hid (Below we.heap.size we wr)) (fun _ s23 _ => 8 - (intOf s23).toNat)
    case atStart => exact ⟨0, by omega, rfl, rfl, Below.refl _ _⟩
    case round =>
      obtain ⟨k, hk, rfl, rfl, HBR⟩ := hrel
      have HGR := hide (heap_below HGE.out HBR.out (heap_lt HGE.out))
      have HKR := hide (heap_below HKE.out HBR.out (heap_lt HKE.out))
      by_cases hlt : k < 8
      · obtain ⟨x, hx⟩ : ∃ x, xs[k]? = some x := ⟨_, List.getElem?_eq_getElem (by have := HX.out; omega)⟩
        obtain ⟨y, hy⟩ : ∃ y, ys[k]? = some y := ⟨_, List.getElem?_eq_getElem (by have := HY.out; omega)⟩
        have hc1 : wr.cell? ⟨w.heap.size, k, none⟩ = some (.int .i64 x) := bank_cell (xs := xs) (t := 23) (fr := (0, 0)) (by rw [← HC.out]; exact HGR.out) hx
        have hc2 : wr.cell? ⟨w.heap.size + 1, k, none⟩ = some (.int .i64 y) := bank_cell (xs := ys) (t := 23) (fr := (0, 0)) (by rw [← HD.out]; exact HKR.out) hy
        have HX' := hide hx
        have HY' := hide hy
        clear hx hy
        go_wp2_with (fail)
        refine (Ref.asks_any mask k _ hm0 hm1 (by omega)).mono ?_
        rintro e w15 ⟨rfl, rfl⟩
        cases hbit : bit mask k with
        | false =>
          have E := hide (differTo_miss (xs := xs) (ys := ys) hbit)
          clear hbit
          go_wp2
          go_quiet (fail)
          go_wp2
          go_roundw
          case rel => exact ⟨k + 1, by omega, by go_num, by rw [E.out], below_drewN HBR.out _⟩
          case measure => simp [intOf]; omega
        | true =>
          have E := hide (differTo_hit hbit HX'.out HY'.out)
          clear hbit
          by_cases hxy : x = y
          · subst hxy
            go_wp2
            go_quiet (fail)
            go_wp2
            go_roundw
            case rel => exact ⟨k + 1, by omega, by go_num, by rw [E.out]; simp, below_drewN HBR.out _⟩
            case measure => simp [intOf]; omega
          · have hd : (x != y) = true := by simp [hxy]
            have HD' := hide hd
            go_wp2
            go_quiet (fail)
            go_wp2
            go_roundw
            case rel => exact ⟨k + 1, by omega, by go_num, by rw [E.out, HD'.out]; simp, below_drewN HBR.out _⟩
            case measure => simp [intOf]; omega
      · have hk8 : k = 8 := by omega
        subst hk8
        have HBE' := hide (HBE.out.trans (HBR.out.mono HBE.out.size))
        clear HBE HBR hlt hk
        have HBE := HBE'
        clear HBE'
        rw [differTo_all]
        go_wp2_with (first | ((with_reducible refine wpl_load 5 ?_ ?_ _ ?_ _ _ HGR.out HSC.out ?_); rfl; rfl; rfl) | ((with_reducible refine wpl_load 9 ?_ ?_ _ ?_ _ _ HKR.out HSD.out ?_); rfl; rfl; rfl))
        refine (same_any xs ys c d mask _ HC.out HD.out HX.out HY.out).mono ?_
        rintro e w16 ⟨rfl, hb16⟩
        have HB16 := hide (HBE.out.trans (hb16.mono HBE.out.size))
        clear hb16
        go_wp2_with (fail)
        refine (As.same_is _ _ _ EE.out (HH.out.below HB16.out)).mono ?_
        rintro e w17 ⟨rfl, hb17⟩
        have HB17 := hide (HB16.out.trans (hb17.mono HB16.out.size))
        clear hb17
        rw [EV.out]
        go_wp2
        go_ret
        exact ⟨rfl, HB17.out⟩
  · have EV := hide (sameV_bad h)
    have EE := hide (sameE_bad h)
    rw [sameE_bad h]
    clear h
    go_wp2
    refine wp_loop_rounds 1 ?_
    rw [rounds_succ]
    go_wp2_with (first | ((with_reducible refine wpl_load 5 ?_ ?_ _ ?_ _ _ HGE.out HSC.out ?_); rfl; rfl; rfl) | ((with_reducible refine wpl_load 9 ?_ ?_ _ ?_ _ _ HKE.out HSD.out ?_); rfl; rfl; rfl))
    refine (same_any xs ys c d mask _ HC.out HD.out HX.out HY.out).mono ?_
    rintro e w16 ⟨rfl, hb16⟩
    have HB16 := hide (HBE.out.trans (hb16.mono HBE.out.size))
    clear hb16
    go_wp2_with (fail)
    refine (As.same_is _ _ _ EE.out (HH.out.below HB16.out)).mono ?_
    rintro e w17 ⟨rfl, hb17⟩
    have HB17 := hide (HB16.out.trans (hb17.mono HB16.out.size))
    clear hb17
    rw [EV.out]
    go_wp2
    go_ret
    exact ⟨rfl, HB17.out⟩
end Go.Proofs.YtldckkcahlpafaaDoor.BankTells
