/-
  Contract of package bank's Extend: for every bank, every register and every number what it returns, and that memory that was there stays as it was.
-/
import Derived.Test.YtojdaifnljghkabDoorQBank2
import Derived.Laws.ResultCell
import Derived.Laws.CopyOwn
namespace Go.Proofs.YtojdaifnljghkabDoor.Bank
open Go.ChangeShapes Go.WideShapes Go.ChangeAt Go.RowKit
open Go.Proofs.YtojdaifnljghkabDoor.M Go.Proofs.YtojdaifnljghkabDoor.Measure
set_option linter.unusedVariables false

theorem bankC_one (xs : List Int) : (bankC xs).all (·.oneCell') = true := by
  rw [Array.all_eq_true_iff_forall_mem]
  intro v hv
  simp only [bankC, List.mem_toArray, List.mem_map] at hv
  obtain ⟨_, _, rfl⟩ := hv
  rfl
/-- The walk's step where a whole bank is stored into the block that a slot points to. -/
theorem wpl_store {w : World} {ops : Array Oper} {rest : List Oper} {o : Oper} {a : Act} {Q : Exit → Act → World → Prop} (p q : Nat) (hw : Region.wanted o (yielded ops a.tmps) = true) (ho : o.op = .store 59 (.tmp p) (.tmp q)) (b : Nat)
    (hx : a.eval (.tmp p) = .pointer (some ⟨b, 0, none⟩)) (c d : Array Value) (hv : a.eval (.tmp q) = .agg d) (hg : w.heap[b]? = some (.cells c 59)) (hs : c.size = 8) (hs' : d.size = 8) (h1 : d.all (·.oneCell') = true)
    (h : wpList Tryd.prog ops Q rest (a.put o.dst undef) (w.setRow b d)) : wpList Tryd.prog ops Q (o :: rest) a w :=
  wpList_step fun K hK => by
    simp only [hw, if_true]
    unfold Oper.wp execOp
    simp only [ho, hx, hv, Instr.storeAt, Instr.sureAddr, Sem.run_bind, Sem.run_pure, Result.andThen_ok, run_storeVar_row w b _ _ c d hg (by rw [info_bank, hs']) (by rw [hs, hs']) h1]
    exact hK _ _ h
theorem results_bank {fn : Func} {p u : Tmp} (h : fn.results = #[.cell p 59, .tmp u]) (tmps : Array Value) (w : World) (b : Nat) (c : Array Value) (v : Value) (hp : tmps.getD p undef = .pointer (some ⟨b, 0, none⟩)) (hu : tmps.getD u undef = v)
    (hg : w.heap[b]? = some (.cells c 59)) (hs : c.size = 8) : (results fn tmps).run Tryd.prog w = .ok (.tuple #[.agg c, v]) w := by
  rw [results_cell_tmp h, hp, hu]
  simp [asAddr, load_bank hg hs, Result.andThen]
theorem noBank_cells : bankC noBank = #[.int .i64 0, .int .i64 0, .int .i64 0, .int .i64 0, .int .i64 0, .int .i64 0, .int .i64 0, .int .i64 0] := rfl
theorem noBank_size : (#[.int .i64 0, .int .i64 0, .int .i64 0, .int .i64 0, .int .i64 0, .int .i64 0, .int .i64 0, .int .i64 0] : Array Value).size = 8 := rfl
theorem noBank_one : (#[.int .i64 0, .int .i64 0, .int .i64 0, .int .i64 0, .int .i64 0, .int .i64 0, .int .i64 0, .int .i64 0] : Array Value).all (·.oneCell') = true := bankC_one noBank

set_option maxHeartbeats 4000000 in
theorem extend_any (xs : List Int) (c : Array Value) (i m : Int) (w : World) (hc : c = bankC xs) (hl : xs.length = 8) :
    Calls Tryd.prog 38 #[.agg c, .int .i64 i, .int .i64 m] w fun e w' => e = .returned (.tuple #[.agg (bankC (extV xs i m)), errV 46 (extE xs i m)]) ∧ Below w.heap.size w w' := by
  have HC := hide hc
  have HL := hide hl
  have HS := hide (show c.size = 8 by rw [hc, bankC_size, hl])
  have HG := hide (heap_alloc2_old w (.cells c 59) (.cells #[.int .i64 0, .int .i64 0, .int .i64 0, .int .i64 0, .int .i64 0, .int .i64 0, .int .i64 0, .int .i64 0] 59))
  have HK := hide (heap_alloc2_new w (.cells c 59) (.cells #[.int .i64 0, .int .i64 0, .int .i64 0, .int .i64 0, .int .i64 0, .int .i64 0, .int .i64 0, .int .i64 0] 59))
  have HB0 := hide (((Below.refl _ w).alloc (Nat.le_refl _) (.cells c 59)).alloc (by simp) (.cells #[.int .i64 0, .int .i64 0, .int .i64 0, .int .i64 0, .int .i64 0, .int .i64 0, .int .i64 0, .int .i64 0] 59))
  clear hc hl
  go_enter Tryd.func38, Tryd.ntmps38
  go_wp2_with ((with_reducible refine wpl_load 3 ?_ ?_ _ ?_ _ _ HG.out HS.out ?_); rfl; rfl; rfl)
  refine (check_any xs c _ HC.out HL.out).mono ?_
  rintro e w1 ⟨rfl, hb1⟩
  have HB1 := hide (HB0.out.trans (hb1.mono (by simp; omega)))
  have HG1 := hide (heap_below HG.out hb1 (heap_lt HG.out))
  have HK1 := hide (heap_below HK.out hb1 (heap_lt HK.out))
  clear hb1 HG HK HB0
  cases ho : okAll xs with
  | false =>
    have hx : extOk xs i m = false := by unfold extOk; rw [ho]; rfl
    have E := hide (extE_bad hx)
    have E' := hide (extV_bad hx)
    rw [bankE_bad ho, errV_one]
    clear ho hx
    go_wp2_with ((with_reducible refine wpl_store 6 15 ?_ ?_ _ ?_ _ _ ?_ HK1.out noBank_size noBank_size noBank_one ?_); rfl; rfl; rfl; rfl)
    refine bodyPost_ret (v := .tuple #[.agg #[.int .i64 0, .int .i64 0, .int .i64 0, .int .i64 0, .int .i64 0, .int .i64 0, .int .i64 0, .int .i64 0], .iface 46 (.int .i64 1)]) ?_ rfl ⟨?_, ?_⟩
    · exact results_bank (p := 6) (u := 7) rfl _ _ (w.heap.size + 1) _ _ rfl rfl (setRow_heap _ _ _ _ _ _ HK1.out) noBank_size
    · rw [E.out, E'.out]; rfl
    · exact below_setRow HB1.out (by omega) _
  | true =>
    rw [bankE_ok ho, errV_zero]
    go_wp2_with (fail)
    refine (isRegister_any i _).mono ?_
    rintro e w1 ⟨rfl, rfl⟩
    cases hr : isReg i with
    | false =>
      have hx : extOk xs i m = false := by unfold extOk; rw [hr, ho]; rfl
      have E := hide (extE_bad hx)
      have E' := hide (extV_bad hx)
      clear ho hx hr
      go_wp2_with ((with_reducible refine wpl_store 6 20 ?_ ?_ _ ?_ _ _ ?_ HK1.out noBank_size noBank_size noBank_one ?_); rfl; rfl; rfl; rfl)
      refine bodyPost_ret (v := .tuple #[.agg #[.int .i64 0, .int .i64 0, .int .i64 0, .int .i64 0, .int .i64 0, .int .i64 0, .int .i64 0, .int .i64 0], .iface 46 (.int .i64 1)]) ?_ rfl ⟨?_, ?_⟩
      · exact results_bank (p := 6) (u := 7) rfl _ _ (w.heap.size + 1) _ _ rfl rfl (setRow_heap _ _ _ _ _ _ HK1.out) noBank_size
      · rw [E.out, E'.out]; rfl
      · exact below_setRow HB1.out (by omega) _
    | true =>
      have hir := isReg_iff.1 hr
      obtain ⟨hi0, hi8⟩ := hir
      obtain ⟨k, rfl⟩ : ∃ k : Nat, i = k := ⟨i.toNat, by omega⟩
      have hk8 : k < 8 := by omega
      obtain ⟨x, hx⟩ : ∃ x, xs[k]? = some x := ⟨_, List.getElem?_eq_getElem (by have := HL.out; omega)⟩
      have hmx : isM x = true := okAll_at ho hx
      have hcell : w1.cell? ⟨w.heap.size, k, none⟩ = some (.int .i64 x) := bank_cell (xs := xs) (t := 59) (fr := (0, 0)) (by rw [← HC.out]; exact HG1.out) hx
      have hfr : w1.frozen? ⟨w.heap.size, k, none⟩ = false := by simp [World.frozen?, HG1.out]
      have HX := hide hx
      cases hm : isM m with
      | false =>
        have hxx : extOk xs k m = false := by unfold extOk; rw [hr, ho, hm]; rfl
        have E := hide (extE_bad hxx)
        have E' := hide (extV_bad hxx)
        have HM := hide hm
        clear ho hxx hr hm hx hmx
        go_wp2_with (fail)
        refine (two_bad x m _ (Or.inr HM.out)).mono ?_
        rintro e w2 ⟨rfl, rfl⟩
        go_wp2_with ((with_reducible refine wpl_store 6 32 ?_ ?_ _ ?_ _ _ ?_ HK1.out noBank_size noBank_size noBank_one ?_); rfl; rfl; rfl; rfl)
        refine bodyPost_ret (v := .tuple #[.agg #[.int .i64 0, .int .i64 0, .int .i64 0, .int .i64 0, .int .i64 0, .int .i64 0, .int .i64 0, .int .i64 0], .iface 46 (.int .i64 1)]) ?_ rfl ⟨?_, ?_⟩
        · exact results_bank (p := 6) (u := 7) rfl _ _ (w.heap.size + 1) _ _ rfl rfl (setRow_heap _ _ _ _ _ _ HK1.out) noBank_size
        · rw [E.out, E'.out]; rfl
        · exact below_setRow HB1.out (by omega) _
      | true =>
        have hxx : extOk xs k m = true := extOk_iff.2 ⟨ho, hr, hm⟩
        have E := hide (extE_ok hxx)
        have E' := hide (extV_ok hxx)
        have HM := hide hm
        have HMX := hide hmx
        clear ho hxx hr hm hx hmx
        have HV := hide (show bankC (xs.set (k : Int).toNat (stp 7919 (xs.getD (k : Int).toNat 0) m)) = c.setIfInBounds k (.int .i64 (stp 7919 x m)) by
          rw [HC.out, bankC_set, Int.toNat_natCast, List.getD_eq_getElem?_getD, HX.out]; rfl)
        have HG2 := hide (heap_setCell_same w1 w.heap.size k c 59 (.int .i64 (stp 7919 x m)) HG1.out)
        have HK2 := hide ((heap_setCell_other w1 ⟨w.heap.size, k, none⟩ (w.heap.size + 1) (.int .i64 (stp 7919 x m)) (by simp)).trans HK1.out)
        have HS2 := hide (show (c.setIfInBounds k (.int .i64 (stp 7919 x m))).size = 8 by rw [Array.size_setIfInBounds]; exact HS.out)
        have HB2 := hide (HB1.out.setCell (p := ⟨w.heap.size, k, none⟩) (Nat.le_refl _) (.int .i64 (stp 7919 x m)))
        have HO2 := hide (show (c.setIfInBounds k (.int .i64 (stp 7919 x m))).all (·.oneCell') = true by rw [← HV.out]; exact bankC_one _)
        go_wp2_with (fail)
        refine (two_ok x m _ HMX.out HM.out).mono ?_
        rintro e w2 ⟨rfl, rfl⟩
        go_wp2_with (first | ((with_reducible refine wpl_load 3 ?_ ?_ _ ?_ _ _ HG2.out HS2.out ?_); rfl; rfl; rfl) | ((with_reducible refine wpl_store 6 37 ?_ ?_ _ ?_ _ _ ?_ HK2.out noBank_size HS2.out HO2.out ?_); rfl; rfl; rfl; rfl))
        refine bodyPost_ret (v := .tuple #[.agg (c.setIfInBounds k (.int .i64 (stp 7919 x m))), .nilIface]) ?_ rfl ⟨?_, ?_⟩
        · exact results_bank (p := 6) (u := 7) rfl _ _ (w.heap.size + 1) _ _ rfl rfl (setRow_heap _ _ _ _ _ _ HK2.out) HS2.out
        · rw [E.out, E'.out, HV.out]; rfl
        · exact below_setRow HB2.out (by omega) _
end Go.Proofs.YtojdaifnljghkabDoor.Bank
