/-
  Contracts of package event's functions over this translation: what Check, Replay and Match return, and that memory that was there stays as it was.
-/
import Derived.Test.YtojdaifnljghkabGreatDoorQEventLaw
import Derived.Test.YtojdaifnljghkabGreatDoorQAnyE
import Derived.Test.YtojdaifnljghkabGreatDoorPack2
namespace Go.Proofs.YtojdaifnljghkabGreatDoor.Event
open Go.ChangeShapes Go.WideShapes Go.ChangeAt Go.RowKit
open Go.Proofs.YtojdaifnljghkabGreatDoor.M Go.Proofs.YtojdaifnljghkabGreatDoor.Measure
set_option linter.unusedVariables false

theorem errV_no {T : TypeId} {k : Int} (h : ¬ k = 0) : errV T k = .iface T (.int .i64 k) := by unfold errV; rw [if_neg h]
theorem bad_any (l : List (Int × Int)) (w : World) : AnyE.Tells 110 #[] (fun x => !evOk x) l w := by
  rintro W ⟨r, m⟩ _ hb
  show Calls Tryz.prog 110 #[.agg #[.int .i64 r, .int .i64 m]] W fun e w' => e = .returned (.bool (!evOk (r, m))) ∧ Below w.heap.size w w'
  have HB := hide (below_on hb (below_new W (.cells #[.int .i64 r, .int .i64 m] 51)))
  have E := hide (show evOk (r, m) = (isReg r && isM m) from rfl)
  clear hb
  go_enter Tryz.func110, Tryz.ntmps110
  go_wp2_with (fail)
  refine (Bank.isRegister_any r _).mono ?_
  rintro e w1 ⟨rfl, rfl⟩
  cases hr : isReg r with
  | false =>
    go_wp2
    go_ret
    exact ⟨by rw [E.out, hr]; rfl, HB.out⟩
  | true =>
    go_wp2_with (fail)
    refine (is_any m _).mono ?_
    rintro e w2 ⟨rfl, rfl⟩
    go_wp2
    go_ret
    exact ⟨by rw [E.out, hr]; cases isM m <;> rfl, HB.out⟩
theorem any_not (l : List (Int × Int)) : (l.any fun x => !evOk x) = !l.all evOk := by
  induction l with
  | nil => rfl
  | cons x r ih => rw [List.any_cons, List.all_cons, ih]; cases evOk x <;> rfl

theorem checkLaw : CheckLaw := by
  intro a l n cap w hn hm hr
  have e1 : ∀ args w, (callFunc 110 args).run Tryz.prog w = .ok (.enter 110 args) w := enters_of Tryz.func110 (by kernel_rfl) rfl
  have hm' : n ≤ 9223372036854775807 := by unfold maxLen at hm; omega
  by_cases h30 : 30 < n
  · have hz : (30 : Int) < n := by omega
    have E := hide (evE_full (l := l) (by omega))
    clear hr
    go_enter Tryz.func78, Tryz.ntmps78
    go_wp2
    go_ret
    exact ⟨by rw [E.out]; rfl, Below.refl _ _⟩
  · have hz : ¬ (30 : Int) < n := by omega
    have C := hide (AnyE.contains_any a l n cap _ #[] _ w hn (by omega) hr e1 (bad_any l w))
    rw [any_not] at C
    have H30 := hide (show ¬ 30 < l.length by omega)
    clear hn hr h30
    go_enter Tryz.func78, Tryz.ntmps78
    go_wp2_with (fail)
    refine C.out.mono ?_
    rintro e w1 ⟨rfl, hb1⟩
    have HB := hide hb1
    clear hb1 C
    cases ho : l.all evOk with
    | true =>
      have E := hide (evE_ok H30.out ho)
      clear ho
      go_wp2
      go_ret
      exact ⟨by rw [E.out]; rfl, HB.out⟩
    | false =>
      have E := hide (evE_bad H30.out ho)
      clear ho
      go_wp2
      go_ret
      exact ⟨by rw [E.out]; rfl, HB.out⟩

/-- Behind some events: the bank, where the answer will lie, what was there. -/
structure Gone (w0 : World) (B R : Nat) (es : List (Int × Int)) (W : World) : Prop where
  bank : W.heap[B]? = some (.cells (bankC (repV es)) 67)
  res : W.heap[R]? = some (.cells #[.int .i64 0, .int .i64 0, .int .i64 0, .int .i64 0, .int .i64 0, .int .i64 0, .int .i64 0, .int .i64 0] 67)
  lo : Below w0.heap.size w0 W
  hB : w0.heap.size ≤ R ∧ R < B
theorem Gone.below {w0 W W' : World} {B R : Nat} {es : List (Int × Int)} (h : Gone w0 B R es W) (hb : Below W.heap.size W W') : Gone w0 B R es W' := ⟨blk_below h.bank hb, blk_below h.res hb, below_on h.lo hb, h.hB⟩
theorem Gone.next {w0 W : World} {B R : Nat} {es es' : List (Int × Int)} (h : Gone w0 B R es W) : Gone w0 B R es' (W.setRow B (bankC (repV es'))) :=
  ⟨setRow_heap _ _ _ _ _ _ h.bank, (setRow_other _ _ _ _ (by have := h.hB; omega)).trans h.res, below_setRow h.lo (by have := h.hB; omega) _, h.hB⟩

set_option maxHeartbeats 4000000 in
theorem replayLaw : ReplayLaw := by
  intro a l n cap w hn hm hr
  have hm' : n ≤ 9223372036854775807 := by unfold maxLen at hm; omega
  have CK := hide (fun (W : World) (h : Below w.heap.size w W) => checkLaw a l n cap W hn hm (hr.below h))
  have HN := hide hn
  have HR := hide hr
  have HB0 := hide (below_new w (.cells #[.int .i64 0, .int .i64 0, .int .i64 0, .int .i64 0, .int .i64 0, .int .i64 0, .int .i64 0, .int .i64 0] 67))
  have HK0 := hide (blk_new w (.cells #[.int .i64 0, .int .i64 0, .int .i64 0, .int .i64 0, .int .i64 0, .int .i64 0, .int .i64 0, .int .i64 0] 67))
  clear hn hm hr
  go_enter Tryz.func38, Tryz.ntmps38
  go_wp2_with (fail)
  refine (CK.out _ HB0.out).mono ?_
  rintro e w1 ⟨rfl, hb1⟩
  have HB1 := hide (below_on HB0.out hb1)
  have HK1 := hide (blk_below HK0.out hb1)
  clear hb1 HB0 HK0 CK
  by_cases hE : evE l = 0
  · have HA := hide (evE_zero hE).2
    have EP := hide (show repP l = repV l from if_pos hE)
    have EE := hide hE
    rw [hE, errV_zero]
    clear hE
    have HF0 : Hid (Gone w w1.heap.size w.heap.size [] (w1.alloc (.cells #[.int .i64 0, .int .i64 0, .int .i64 0, .int .i64 0, .int .i64 0, .int .i64 0, .int .i64 0, .int .i64 0] 67))) := ⟨blk_new _ _, blk_keep HK1.out _, below_on HB1.out (below_new _ _), ⟨Nat.le_refl _, blk_lt HK1.out⟩⟩
    clear HB1 HK1
    generalize hBB : w1.heap.size = B at HF0
    go_wp2
    go_loopw [18] (fun s18 wr => ∃ k : Nat, k ≤ n ∧ s18 = .int .i64 k ∧ Hid (Gone w B w.heap.size (l.take k) wr)) (fun s18 _ => n - (intOf s18).toNat)
    case atStart => exact ⟨0, by omega, rfl, HF0.out⟩
    case round =>
      obtain ⟨k, hk, rfl, HF⟩ := hrel
      clear HF0
      by_cases hlt : k < n
      · have hlz : (k : Int) < n := by omega
        obtain ⟨⟨x, m⟩, hx⟩ : ∃ c, l[k]? = some c := ⟨l[k]'(by have := HN.out; omega), List.getElem?_eq_getElem (by have := HN.out; omega)⟩
        obtain ⟨b, off, rfl, hc⟩ := (HR.out.below HF.out.lo).at hx
        obtain ⟨x0, x1⟩ := AnyE.two_cells hc
        have hev : evOk (x, m) = true := List.all_eq_true.1 HA.out _ (List.mem_of_getElem? hx)
        have hx1 : extE (repV (l.take k)) x m = 0 := (rep_ext hev).1
        have hx2 : extV (repV (l.take k)) x m = repV (l.take (k + 1)) := by rw [take_one hx]; exact (rep_ext hev).2
        have EX := hide (fun (W : World) => Bank.extend_any (repV (l.take k)) (bankC (repV (l.take k))) x m W rfl (repV_len _))
        rw [hx1, hx2, errV_zero] at EX
        clear hx hc hev hx1 hx2
        have HS0 := hide (show (bankC (repV (l.take k))).size = 8 by rw [bankC_size]; exact repV_len _)
        have HSN := hide (show (bankC (repV (l.take (k + 1)))).size = 8 by rw [bankC_size]; exact repV_len _)
        have HON := hide (Bank.bankC_one (repV (l.take (k + 1))))
        have HFa := hide (HF.out.below (below_new wr (.cells #[.int .i64 x, .int .i64 m] 51)))
        clear HF
        go_wp2_with ((with_reducible refine Bank.wpl_load 5 ?_ ?_ _ ?_ _ _ HFa.out.bank HS0.out ?_); rfl; rfl; rfl)
        refine (EX.out _).mono ?_
        rintro e w2 ⟨rfl, hb2⟩
        have HF2 := hide ((HFa.out.below hb2).below (below_new w2 (.cells (bankC (repV (l.take (k + 1)))) 67)))
        have HL2 := hide (blk_new w2 (.cells (bankC (repV (l.take (k + 1)))) 67))
        clear hb2 HFa EX x0 x1
        go_wp2_with (first | ((with_reducible refine Bank.wpl_store_new 8 29 _ _ ?_ ?_ ?_ ?_ Bank.noBank_size HSN.out HON.out ?_); rfl; rfl; rfl; rfl) | ((with_reducible refine Bank.wpl_load 8 ?_ ?_ _ ?_ _ _ HL2.out HSN.out ?_); rfl; rfl; rfl) | ((with_reducible refine Bank.wpl_store 5 35 ?_ ?_ _ ?_ _ _ ?_ HF2.out.bank HS0.out HSN.out HON.out ?_); rfl; rfl; rfl; rfl))
        go_roundw
        case rel => exact ⟨k + 1, by omega, by go_num, HF2.out.next⟩
        case measure => simp [intOf]; omega
      · have hlz : ¬ (k : Int) < n := by omega
        have E := hide (show l.take k = l from List.take_of_length_le (by have := HN.out; omega))
        rw [E.out] at HF
        have HSX := hide (show (bankC (repV l)).size = 8 by rw [bankC_size]; exact repV_len _)
        have HOX := hide (Bank.bankC_one (repV l))
        go_wp2_with (first | ((with_reducible refine Bank.wpl_load 5 ?_ ?_ _ ?_ _ _ HF.out.bank HSX.out ?_); rfl; rfl; rfl) | ((with_reducible refine Bank.wpl_store 2 37 ?_ ?_ _ ?_ _ _ ?_ HF.out.res Bank.noBank_size HSX.out HOX.out ?_); rfl; rfl; rfl; rfl))
        refine bodyPost_ret (v := .tuple #[.agg (bankC (repV l)), .nilIface]) ?_ rfl ⟨?_, ?_⟩
        · exact Bank.results_bank (p := 2) (u := 3) rfl _ _ w.heap.size _ _ rfl rfl (setRow_heap _ _ _ _ _ _ HF.out.res) HSX.out
        · rw [EP.out, EE.out]; rfl
        · exact below_setRow HF.out.lo (Nat.le_refl _) _
  · have EP := hide (show repP l = noBank from if_neg hE)
    have HX := hide (errV_no (T := 96) hE)
    rw [HX.out]
    clear hE
    go_wp2_with ((with_reducible refine Bank.wpl_store 2 14 ?_ ?_ _ ?_ _ _ ?_ HK1.out Bank.noBank_size Bank.noBank_size Bank.noBank_one ?_); rfl; rfl; rfl; rfl)
    refine bodyPost_ret (v := .tuple #[.agg #[.int .i64 0, .int .i64 0, .int .i64 0, .int .i64 0, .int .i64 0, .int .i64 0, .int .i64 0, .int .i64 0], .iface 96 (.int .i64 (evE l))]) ?_ rfl ⟨?_, ?_⟩
    · exact Bank.results_bank (p := 2) (u := 3) rfl _ _ w.heap.size _ _ rfl rfl (setRow_heap _ _ _ _ _ _ HK1.out) Bank.noBank_size
    · rw [EP.out, HX.out]; rfl
    · exact below_setRow HB1.out (Nat.le_refl _) _

theorem repP_len (l : List (Int × Int)) : (repP l).length = 8 := by
  unfold repP
  split
  · exact repV_len l
  · rfl
end Go.Proofs.YtojdaifnljghkabGreatDoor.Event
