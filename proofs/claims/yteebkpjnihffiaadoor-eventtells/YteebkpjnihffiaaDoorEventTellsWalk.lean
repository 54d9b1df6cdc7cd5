/-
  The walk of stairlaw2.EventTells: it returns true, and memory that was there stays as it was.
-/
import Derived.Test.YteebkpjnihffiaaDoorEventLaw
import Derived.Test.YteebkpjnihffiaaDoorEventRef
import Derived.Test.YteebkpjnihffiaaDoorRef2
import Derived.Test.YteebkpjnihffiaaDoorBank4
import Derived.Test.YteebkpjnihffiaaDoorAs
import Derived.Deep.QuietTactic
import Derived.BigQuiet
namespace Go.Proofs.YteebkpjnihffiaaDoor.M
def differTo (xs ys : List Int) (m : Int) (n : Nat) : Bool := (askedL m n).any fun i => xs.getD i.toNat 0 != ys.getD i.toNat 0
theorem differTo_zero (xs ys : List Int) (m : Int) : differTo xs ys m 0 = false := rfl
theorem differTo_all (xs ys : List Int) (m : Int) : differTo xs ys m 8 = differ xs ys m := rfl
theorem differTo_miss {xs ys : List Int} {m : Int} {n : Nat} (h : bit m n = false) : differTo xs ys m (n + 1) = differTo xs ys m n := by unfold differTo; rw [askedL_miss h]
theorem differTo_hit {xs ys : List Int} {m : Int} {n : Nat} {x y : Int} (h : bit m n = true) (hx : xs[n]? = some x) (hy : ys[n]? = some y) : differTo xs ys m (n + 1) = (differTo xs ys m n || (x != y)) := by
  unfold differTo
  rw [askedL_hit h]
  simp [hx, hy]
theorem sameE_dig {xs ys : List Int} {m : Int} (h : okAll xs = true) : digE ys m = sameE xs ys m := by
  by_cases h' : okAll ys = true ∧ isMask m = true
  · rw [digE_ok h'.1 h'.2, sameE_ok h h'.1 h'.2]
  · rw [digE_bad h', sameE_bad (fun hn => h' hn.2)]
end Go.Proofs.YteebkpjnihffiaaDoor.M
namespace Go.Proofs.YteebkpjnihffiaaDoor.EventTells
open Go.ChangeShapes Go.WideShapes Go.ChangeAt Go.RowKit
open Go.Proofs.YteebkpjnihffiaaDoor.M Go.Proofs.YteebkpjnihffiaaDoor.Event Go.Proofs.YteebkpjnihffiaaDoor.Bank
set_option linter.unusedVariables false

theorem errV_no {T : TypeId} {k : Int} (h : ¬ k = 0) : errV T k = .iface T (.int .i64 k) := by unfold errV; rw [if_neg h]
theorem quiet_below (w : World) : ∀ n, Below w.heap.size w (w.drewN n)
  | 0 => Below.refl _ _
  | n + 1 => Below.drew (quiet_below w n)
/-- Two banks in their blocks, and all that was there is as it was. -/
structure Kept (w0 : World) (B : Nat) (c d : Array Value) (W : World) : Prop where
  lo : Below w0.heap.size w0 W
  g : W.heap[w0.heap.size]? = some (.cells c 24)
  k : W.heap[B]? = some (.cells d 24)
theorem Kept.below {w0 W W' : World} {B : Nat} {c d : Array Value} (h : Kept w0 B c d W) (hb : Below W.heap.size W W') : Kept w0 B c d W' := ⟨below_on h.lo hb, blk_below h.g hb, blk_below h.k hb⟩
theorem Kept.set {w0 W : World} {B : Nat} {c d : Array Value} (h : Kept w0 B c d W) (hB : w0.heap.size < B) (d' : Array Value) : Kept w0 B c d' (W.setRow B d') :=
  ⟨below_setRow h.lo (by omega) _, by rw [setRow_other _ _ _ _ (by omega)]; exact h.g, setRow_heap _ _ _ _ _ _ h.k⟩

set_option maxRecDepth 20000 in
set_option maxHeartbeats 8000000 in
theorem walk (CL : CheckLaw) (RL : ReplayLaw) (ML : MatchLaw) (a : Option Addr) (l : List (Int × Int)) (n cap : Nat) (ys : List Int) (bc : Array Value) (m : Int) (w : World) (hn : n = l.length) (hm : n ≤ maxLen) (hr : RRow 2 evV w a l) (hbc : bc = bankC ys) (hl : ys.length = 8) (hg : As.Handle w) :
    Calls Tryd.prog 4 #[.slice a n cap, .agg bc, .int .i64 m] w fun e w' => e = .returned (.bool true) ∧ Below w.heap.size w w' := by
  have HH := hide (fun (W : World) (h : Below w.heap.size w W) => hg.below h)
  have HB0 := hide (below_new w (.cells bc 24))
  have HG0 := hide (blk_new w (.cells bc 24))
  have HS := hide (show bc.size = 8 by rw [hbc, bankC_size, hl])
  have HBC := hide hbc
  have HL := hide hl
  have EV := hide (fun (W : World) (h : Below w.heap.size w W) => EventRef.events_any a l n cap W hn hm (hr.below h))
  have CK := hide (fun (W : World) (h : Below w.heap.size w W) => CL a l n cap W hn hm (hr.below h))
  have RF := hide (fun (W : World) (h : Below w.heap.size w W) (ho : l.all evOk = true) => EventRef.replay_ok a l n cap W hn hm (hr.below h) ho)
  have RP := hide (fun (W : World) (h : Below w.heap.size w W) => RL a l n cap W hn hm (hr.below h))
  have MT := hide (fun (W : World) (h : Below w.heap.size w W) => ML a l n cap ys bc m W hn hm (hr.below h) hbc hl)
  have DG := hide (fun (W : World) => Ref.digested_any ys bc m W hbc hl)
  clear CL RL ML hn hm hr hbc hl hg
  have HBO := hide (bankC_one (repV l))
  have HBZ := hide (show (bankC (repV l)).size = 8 by rw [bankC_size]; exact repV_len _)
  by_cases hE : evE l = 0
  · have RPE := hide (show repP l = repV l from if_pos hE)
    have ME := hide (show matE l ys m = sameE (repV l) ys m from if_pos hE)
    have MV := hide (show matV l ys m = sameV (repV l) ys m from if_pos hE)
    have RF2 := hide (fun (W : World) (h : Below w.heap.size w W) => RF.out W h (evE_zero hE).2)
    have OKR := hide (repV_ok l)
    have EQ : ∀ W : World, (Op.equalIn 10000 24 (.agg (bankC (repV l))) (.agg (bankC (repV l)))).run Tryd.prog W = .ok true W := fun W => by
      have := eq_bank (xs := repV l) (ys := repV l) (repV_len _) (repV_len _) W
      rw [this, decide_eq_true rfl]
    rw [hE] at EV
    rw [hE, errV_zero] at CK
    rw [hE, RPE.out, errV_zero] at RP
    rw [ME.out, MV.out] at MT
    have RLEN := hide (repV_len l)
    clear RF hE RPE ME MV
    generalize repV l = rl at *
    go_enter Tryd.func4, Tryd.ntmps4
    go_wp2_with (fail)
    refine (EV.out _ HB0.out).mono ?_
    rintro e w1 ⟨rfl, hw1⟩
    rw [hw1]
    clear hw1 EV
    go_wp2_with (fail)
    refine (CK.out _ HB0.out).mono ?_
    rintro e w1 ⟨rfl, hb1⟩
    have HB1 := hide (below_on HB0.out hb1)
    have HG1 := hide (blk_below HG0.out hb1)
    clear hb1 CK HB0 HG0
    go_wp2_with (fail)
    refine (As.same_nil _ _).mono ?_
    rintro e w1' ⟨rfl, hw⟩
    rw [hw]
    clear hw
    have HK1 : Hid (Kept w w1.heap.size bc #[.int .i64 0, .int .i64 0, .int .i64 0, .int .i64 0, .int .i64 0, .int .i64 0, .int .i64 0, .int .i64 0] (w1.alloc (.cells #[.int .i64 0, .int .i64 0, .int .i64 0, .int .i64 0, .int .i64 0, .int .i64 0, .int .i64 0, .int .i64 0] 24))) := ⟨below_on HB1.out (below_new _ _), blk_below HG1.out (below_new _ _), blk_new _ _⟩
    have hB : w.heap.size < w1.heap.size := blk_lt HG1.out
    clear HB1 HG1
    go_wp2_with (fail)
    refine (RF2.out _ HK1.out.lo).mono ?_
    rintro e w2 ⟨rfl, hb2⟩
    have HK2 := hide (HK1.out.below hb2)
    clear hb2 HK1 RF2
    have HK3 := hide (HK2.out.set hB (bankC rl))
    go_wp2_with ((with_reducible refine wpl_store 9 27 ?_ ?_ _ ?_ _ _ ?_ HK2.out.k noBank_size HBZ.out HBO.out ?_); rfl; rfl; rfl; rfl)
    refine (RP.out _ HK3.out.lo).mono ?_
    rintro e w4 ⟨rfl, hb4⟩
    have HK4 := hide (HK3.out.below (below_on hb4 (below_new w4 (.cells (bankC rl) 24))))
    have HX4 := hide (blk_new w4 (.cells (bankC rl) 24))
    clear hb4 HK2 HK3 RP
    go_wp2_with ((with_reducible refine wpl_store_new 10 31 _ _ ?_ ?_ ?_ ?_ noBank_size HBZ.out HBO.out ?_); rfl; rfl; rfl; rfl)
    refine (As.same_nil _ _).mono ?_
    rintro e w4' ⟨rfl, hw⟩
    rw [hw]
    clear hw
    go_wp2_with (first | ((with_reducible refine wpl_load 10 ?_ ?_ _ ?_ _ _ HX4.out HBZ.out ?_); rfl; rfl; rfl) | ((with_reducible refine wpl_load 9 ?_ ?_ _ ?_ _ _ HK4.out.k HBZ.out ?_); rfl; rfl; rfl) | ((with_reducible refine wpl_load 4 ?_ ?_ _ ?_ _ _ HK4.out.g HS.out ?_); rfl; rfl; rfl))
    refine (DG.out _).mono ?_
    rintro e w5 ⟨rfl, hb5⟩
    have HK5 := hide (HK4.out.below hb5)
    clear hb5 HK4 HX4 DG
    obtain ⟨we, hwe⟩ : ∃ we, we = w5 := ⟨_, rfl⟩
    subst hwe
    generalize w1.heap.size = B at *
    by_cases h : okAll ys = true ∧ isMask m = true
    · obtain ⟨hm0, hm1⟩ := isMask_iff.1 h.2
      have SV := hide (sameV_ok OKR.out h.1 h.2)
      rw [sameE_ok OKR.out h.1 h.2, errV_zero] at MT
      rw [digE_ok h.1 h.2]
      clear h
      go_wp2
      go_loopw [13, 14, 15] (fun s13 s14 _ wr => ∃ k : Nat, k ≤ 8 ∧ s14 = .int .i64 k ∧ s13 = .bool (!differTo rl ys m k) ∧ Hid (Below we.heap.size we wr)) (fun _ s14 _ _ => 8 - (intOf s14).toNat)
      case atStart => exact ⟨0, by omega, rfl, rfl, Below.refl _ _⟩
      case round =>
        obtain ⟨k, hk, rfl, rfl, HBR⟩ := hrel
        have HKR := hide (HK5.out.below HBR.out)
        by_cases hlt : k < 8
        · obtain ⟨x, hx⟩ : ∃ x, rl[k]? = some x := ⟨_, List.getElem?_eq_getElem (by have := RLEN.out; omega)⟩
          obtain ⟨y, hy⟩ : ∃ y, ys[k]? = some y := ⟨_, List.getElem?_eq_getElem (by have := HL.out; omega)⟩
          have hc1 : wr.cell? ⟨B, k, none⟩ = some (.int .i64 x) := bank_cell HKR.out.k hx
          have hc2 : wr.cell? ⟨w.heap.size, k, none⟩ = some (.int .i64 y) := bank_cell (xs := ys) (t := 24) (fr := (0, 0)) (by rw [← HBC.out]; exact HKR.out.g) hy
          have HX' := hide hx
          have HY' := hide hy
          clear hx hy
          go_wp2_with (fail)
          refine (Ref.asks_any m k _ hm0 hm1 (by omega)).mono ?_
          rintro e w15 ⟨rfl, hw⟩
          rw [hw]
          clear hw
          cases hbit : bit m k with
          | false =>
            have E := hide (differTo_miss (xs := rl) (ys := ys) hbit)
            clear hbit
            go_wp2
            go_quiet (fail)
            go_wp2
            go_roundw
            case rel => exact ⟨k + 1, by omega, by go_num, by rw [E.out], below_on HBR.out (quiet_below _ _)⟩
            case measure => simp [intOf]; omega
          | true =>
            have E := hide (differTo_hit hbit HX'.out HY'.out)
            clear hbit
            by_cases hxy : x = y
            · subst hxy
              go_wp2
              go_quiet (fail)
              go_wp2
              go_roundw
              case rel => exact ⟨k + 1, by omega, by go_num, by rw [E.out]; simp, below_on HBR.out (quiet_below _ _)⟩
              case measure => simp [intOf]; omega
            · have hd : (x != y) = true := by simp [hxy]
              have HD' := hide hd
              go_wp2
              go_quiet (fail)
              go_wp2
              go_roundw
              case rel => exact ⟨k + 1, by omega, by go_num, by rw [E.out, HD'.out]; simp, below_on HBR.out (quiet_below _ _)⟩
              case measure => simp [intOf]; omega
        · have hk8 : k = 8 := by omega
          subst hk8
          rw [differTo_all]
          rw [SV.out] at MT
          generalize M.differ rl ys m = df at *
          clear hlt hk HBR HK5
          go_wp2_with ((with_reducible refine wpl_load 4 ?_ ?_ _ ?_ _ _ HKR.out.g HS.out ?_); rfl; rfl; rfl)
          refine (MT.out _ HKR.out.lo).mono ?_
          rintro e w16 ⟨rfl, hb16⟩
          have HK16 := hide (HKR.out.below hb16)
          clear hb16 HKR
          go_wp2_with (fail)
          refine (As.same_nil _ _).mono ?_
          rintro e w17 ⟨rfl, hw⟩
          rw [hw]
          clear hw
          go_wp2
          go_ret
          exact ⟨by cases df <;> rfl, HK16.out.lo⟩
    · rw [sameE_bad (fun hn => h hn.2), sameV_bad (fun hn => h hn.2), errV_one] at MT
      rw [digE_bad h]
      clear h
      go_wp2
      refine wp_loop_rounds 1 ?_
      rw [rounds_succ]
      go_wp2_with ((with_reducible refine wpl_load 4 ?_ ?_ _ ?_ _ _ HK5.out.g HS.out ?_); rfl; rfl; rfl)
      refine (MT.out _ HK5.out.lo).mono ?_
      rintro e w16 ⟨rfl, hb16⟩
      have HK16 := hide (HK5.out.below hb16)
      clear hb16 HK5
      go_wp2_with (fail)
      refine (As.same_err 1 1 _ (HH.out _ HK16.out.lo)).mono ?_
      rintro e w17 ⟨rfl, hb17⟩
      have HK17 := hide (HK16.out.below hb17)
      clear hb17 HK16
      go_wp2
      go_ret
      exact ⟨rfl, HK17.out.lo⟩
  · have RPE := hide (show repP l = noBank from if_neg hE)
    have ME := hide (show matE l ys m = evE l from if_neg hE)
    have MV := hide (show matV l ys m = false from if_neg hE)
    have EQ : ∀ W : World, (Op.equalIn 10000 24 (.agg #[.int .i64 0, .int .i64 0, .int .i64 0, .int .i64 0, .int .i64 0, .int .i64 0, .int .i64 0, .int .i64 0]) (.agg #[.int .i64 0, .int .i64 0, .int .i64 0, .int .i64 0, .int .i64 0, .int .i64 0, .int .i64 0, .int .i64 0])).run Tryd.prog W = .ok true W := fun W => eq_bank (xs := noBank) (ys := noBank) rfl rfl W
    have HX := hide (errV_no (T := 63) hE)
    rw [HX.out] at CK
    rw [HX.out, RPE.out, noBank_cells] at RP
    rw [ME.out, MV.out, HX.out] at MT
    clear RF RPE ME MV HX HBO HBZ DG
    generalize evE l = ee at *
    go_enter Tryd.func4, Tryd.ntmps4
    go_wp2_with (fail)
    refine (EV.out _ HB0.out).mono ?_
    rintro e w1 ⟨rfl, hw1⟩
    rw [hw1]
    clear hw1 EV
    go_wp2_with (fail)
    refine (CK.out _ HB0.out).mono ?_
    rintro e w1 ⟨rfl, hb1⟩
    have HB1 := hide (below_on HB0.out hb1)
    have HG1 := hide (blk_below HG0.out hb1)
    clear hb1 CK HB0 HG0
    go_wp2_with (fail)
    refine (As.same_err ee ee _ (HH.out _ HB1.out)).mono ?_
    rintro e w2 ⟨rfl, hb2⟩
    have HK2 : Hid (Kept w w2.heap.size bc #[.int .i64 0, .int .i64 0, .int .i64 0, .int .i64 0, .int .i64 0, .int .i64 0, .int .i64 0, .int .i64 0] (w2.alloc (.cells #[.int .i64 0, .int .i64 0, .int .i64 0, .int .i64 0, .int .i64 0, .int .i64 0, .int .i64 0, .int .i64 0] 24))) := ⟨below_on (below_on HB1.out hb2) (below_new _ _), blk_below (blk_below HG1.out hb2) (below_new _ _), blk_new _ _⟩
    clear hb2 HB1 HG1
    rw [show (ee == ee) = true by simp]
    go_wp2_with (fail)
    refine (RP.out _ HK2.out.lo).mono ?_
    rintro e w4 ⟨rfl, hb4⟩
    have HK4 := hide (HK2.out.below (below_on hb4 (below_new w4 (.cells #[.int .i64 0, .int .i64 0, .int .i64 0, .int .i64 0, .int .i64 0, .int .i64 0, .int .i64 0, .int .i64 0] 24))))
    have HX4 := hide (blk_new w4 (.cells #[.int .i64 0, .int .i64 0, .int .i64 0, .int .i64 0, .int .i64 0, .int .i64 0, .int .i64 0, .int .i64 0] 24))
    clear hb4 HK2 RP
    go_wp2_with ((with_reducible refine wpl_store_new 10 31 _ _ ?_ ?_ ?_ ?_ noBank_size noBank_size noBank_one ?_); rfl; rfl; rfl; rfl)
    refine (As.same_err ee ee _ (HH.out _ HK4.out.lo)).mono ?_
    rintro e w5 ⟨rfl, hb5⟩
    have HK5 := hide (HK4.out.below hb5)
    have HX5 := hide (blk_below HX4.out hb5)
    clear hb5 HK4 HX4
    rw [show (ee == ee) = true by simp]
    generalize w2.heap.size = B at *
    go_wp2_with (first | ((with_reducible refine wpl_load 10 ?_ ?_ _ ?_ _ _ HX5.out noBank_size ?_); rfl; rfl; rfl) | ((with_reducible refine wpl_load 9 ?_ ?_ _ ?_ _ _ HK5.out.k noBank_size ?_); rfl; rfl; rfl))
    refine wp_loop_rounds 1 ?_
    rw [rounds_succ]
    go_wp2_with ((with_reducible refine wpl_load 4 ?_ ?_ _ ?_ _ _ HK5.out.g HS.out ?_); rfl; rfl; rfl)
    refine (MT.out _ HK5.out.lo).mono ?_
    rintro e w16 ⟨rfl, hb16⟩
    have HK16 := hide (HK5.out.below hb16)
    clear hb16 HK5
    go_wp2_with (fail)
    refine (As.same_err ee ee _ (HH.out _ HK16.out.lo)).mono ?_
    rintro e w17 ⟨rfl, hb17⟩
    have HK17 := hide (HK16.out.below hb17)
    clear hb17 HK16
    rw [show (ee == ee) = true by simp]
    go_wp2
    go_ret
    exact ⟨rfl, HK17.out.lo⟩
end Go.Proofs.YteebkpjnihffiaaDoor.EventTells
