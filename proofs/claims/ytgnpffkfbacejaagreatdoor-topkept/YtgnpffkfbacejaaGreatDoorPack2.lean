/-
  Several texts in one: Contract of package bank's Extend: for every bank, every register and every number what it returns, and that memory that was there stays as it was. / What '==' is at two banks, the step of a walk that stores a bank into a block that was laid last, and plain mathematics on extended banks, likeness and digests. / Plain mathematics on digests: a step can be undone from either side; where one register alone that is asked for is another one, so is the digest; boxes: what a lid tells.
-/
import Derived.Test.YtgnpffkfbacejaaGreatDoorPack1
import Derived.Laws.ResultCell
import Derived.Laws.CopyOwn
import Derived.ChangeKeysEq
import Derived.Laws.StructEq
import Derived.Deep.WholeRow
namespace Go.Proofs.YtgnpffkfbacejaaGreatDoor.Bank
open Go.ChangeShapes Go.WideShapes Go.ChangeAt Go.RowKit
open Go.Proofs.YtgnpffkfbacejaaGreatDoor.M Go.Proofs.YtgnpffkfbacejaaGreatDoor.Measure
set_option linter.unusedVariables false

theorem bankC_one (xs : List Int) : (bankC xs).all (·.oneCell') = true := by
  rw [Array.all_eq_true_iff_forall_mem]
  intro v hv
  simp only [bankC, List.mem_toArray, List.mem_map] at hv
  obtain ⟨_, _, rfl⟩ := hv
  rfl
/-- The walk's step where a whole bank is stored into the block that a slot points to. -/
theorem wpl_store {w : World} {ops : Array Oper} {rest : List Oper} {o : Oper} {a : Act} {Q : Exit → Act → World → Prop} (p q : Nat) (hw : Region.wanted o (yielded ops a.tmps) = true) (ho : o.op = .store 54 (.tmp p) (.tmp q)) (b : Nat)
    (hx : a.eval (.tmp p) = .pointer (some ⟨b, 0, none⟩)) (c d : Array Value) (hv : a.eval (.tmp q) = .agg d) (hg : w.heap[b]? = some (.cells c 54)) (hs : c.size = 8) (hs' : d.size = 8) (h1 : d.all (·.oneCell') = true)
    (h : wpList Tryz.prog ops Q rest (a.put o.dst undef) (w.setRow b d)) : wpList Tryz.prog ops Q (o :: rest) a w :=
  wpList_step fun K hK => by
    simp only [hw, if_true]
    unfold Oper.wp execOp
    simp only [ho, hx, hv, Instr.storeAt, Instr.sureAddr, Sem.run_bind, Sem.run_pure, Result.andThen_ok, run_storeVar_row w b _ _ c d hg (by rw [info_bank, hs']) (by rw [hs, hs']) h1]
    exact hK _ _ h
theorem results_bank {fn : Func} {p u : Tmp} (h : fn.results = #[.cell p 54, .tmp u]) (tmps : Array Value) (w : World) (b : Nat) (c : Array Value) (v : Value) (hp : tmps.getD p undef = .pointer (some ⟨b, 0, none⟩)) (hu : tmps.getD u undef = v)
    (hg : w.heap[b]? = some (.cells c 54)) (hs : c.size = 8) : (results fn tmps).run Tryz.prog w = .ok (.tuple #[.agg c, v]) w := by
  rw [results_cell_tmp h, hp, hu]
  simp [asAddr, load_bank hg hs, Result.andThen]
theorem noBank_cells : bankC noBank = #[.int .i64 0, .int .i64 0, .int .i64 0, .int .i64 0, .int .i64 0, .int .i64 0, .int .i64 0, .int .i64 0] := rfl
theorem noBank_size : (#[.int .i64 0, .int .i64 0, .int .i64 0, .int .i64 0, .int .i64 0, .int .i64 0, .int .i64 0, .int .i64 0] : Array Value).size = 8 := rfl
theorem noBank_one : (#[.int .i64 0, .int .i64 0, .int .i64 0, .int .i64 0, .int .i64 0, .int .i64 0, .int .i64 0, .int .i64 0] : Array Value).all (·.oneCell') = true := bankC_one noBank

set_option maxHeartbeats 4000000 in
theorem extend_any (xs : List Int) (c : Array Value) (i m : Int) (w : World) (hc : c = bankC xs) (hl : xs.length = 8) :
    Calls Tryz.prog 66 #[.agg c, .int .i64 i, .int .i64 m] w fun e w' => e = .returned (.tuple #[.agg (bankC (extV xs i m)), errV 63 (extE xs i m)]) ∧ Below w.heap.size w w' := by
  have HC := hide hc
  have HL := hide hl
  have HS := hide (show c.size = 8 by rw [hc, bankC_size, hl])
  have HG := hide (heap_alloc2_old w (.cells c 54) (.cells #[.int .i64 0, .int .i64 0, .int .i64 0, .int .i64 0, .int .i64 0, .int .i64 0, .int .i64 0, .int .i64 0] 54))
  have HK := hide (heap_alloc2_new w (.cells c 54) (.cells #[.int .i64 0, .int .i64 0, .int .i64 0, .int .i64 0, .int .i64 0, .int .i64 0, .int .i64 0, .int .i64 0] 54))
  have HB0 := hide (((Below.refl _ w).alloc (Nat.le_refl _) (.cells c 54)).alloc (by simp) (.cells #[.int .i64 0, .int .i64 0, .int .i64 0, .int .i64 0, .int .i64 0, .int .i64 0, .int .i64 0, .int .i64 0] 54))
  clear hc hl
  go_enter Tryz.func66, Tryz.ntmps66
  go_wp2_with ((with_reducible refine wpl_load 3 ?_ ?_ _ ?_ _ _ HG.out HS.out ?_); rfl; rfl; rfl)
  refine (check_any xs c _ HC.out HL.out).mono ?_
  rintro e w1 ⟨rfl, hb1⟩
  have HB1 := hide (HB0.out.trans (hb1.mono (by simp; omega)))
  have HG1 := hide (heap_below HG.out hb1 (heap_lt HG.out))
  have HK1 := hide (heap_below HK.out hb1 (heap_lt HK.out))
  clear hb1 HG HK HB0
  cases ho : okAll xs with
  | false =>
    have hx : extOk xs i m = false := by unfold extOk; rw [ho]; rfl
    have E := hide (extE_bad hx)
    have E' := hide (extV_bad hx)
    rw [bankE_bad ho, errV_one]
    clear ho hx
    go_wp2_with ((with_reducible refine wpl_store 6 15 ?_ ?_ _ ?_ _ _ ?_ HK1.out noBank_size noBank_size noBank_one ?_); rfl; rfl; rfl; rfl)
    refine bodyPost_ret (v := .tuple #[.agg #[.int .i64 0, .int .i64 0, .int .i64 0, .int .i64 0, .int .i64 0, .int .i64 0, .int .i64 0, .int .i64 0], .iface 63 (.int .i64 1)]) ?_ rfl ⟨?_, ?_⟩
    · exact results_bank (p := 6) (u := 7) rfl _ _ (w.heap.size + 1) _ _ rfl rfl (setRow_heap _ _ _ _ _ _ HK1.out) noBank_size
    · rw [E.out, E'.out]; rfl
    · exact below_setRow HB1.out (by omega) _
  | true =>
    rw [bankE_ok ho, errV_zero]
    go_wp2_with (fail)
    refine (isRegister_any i _).mono ?_
    rintro e w1 ⟨rfl, rfl⟩
    cases hr : isReg i with
    | false =>
      have hx : extOk xs i m = false := by unfold extOk; rw [hr, ho]; rfl
      have E := hide (extE_bad hx)
      have E' := hide (extV_bad hx)
      clear ho hx hr
      go_wp2_with ((with_reducible refine wpl_store 6 20 ?_ ?_ _ ?_ _ _ ?_ HK1.out noBank_size noBank_size noBank_one ?_); rfl; rfl; rfl; rfl)
      refine bodyPost_ret (v := .tuple #[.agg #[.int .i64 0, .int .i64 0, .int .i64 0, .int .i64 0, .int .i64 0, .int .i64 0, .int .i64 0, .int .i64 0], .iface 63 (.int .i64 1)]) ?_ rfl ⟨?_, ?_⟩
      · exact results_bank (p := 6) (u := 7) rfl _ _ (w.heap.size + 1) _ _ rfl rfl (setRow_heap _ _ _ _ _ _ HK1.out) noBank_size
      · rw [E.out, E'.out]; rfl
      · exact below_setRow HB1.out (by omega) _
    | true =>
      have hir := isReg_iff.1 hr
      obtain ⟨hi0, hi8⟩ := hir
      obtain ⟨k, rfl⟩ : ∃ k : Nat, i = k := ⟨i.toNat, by omega⟩
      have hk8 : k < 8 := by omega
      obtain ⟨x, hx⟩ : ∃ x, xs[k]? = some x := ⟨_, List.getElem?_eq_getElem (by have := HL.out; omega)⟩
      have hmx : isM x = true := okAll_at ho hx
      have hcell : w1.cell? ⟨w.heap.size, k, none⟩ = some (.int .i64 x) := bank_cell (xs := xs) (t := 54) (fr := (0, 0)) (by rw [← HC.out]; exact HG1.out) hx
      have hfr : w1.frozen? ⟨w.heap.size, k, none⟩ = false := by simp [World.frozen?, HG1.out]
      have HX := hide hx
      cases hm : isM m with
      | false =>
        have hxx : extOk xs k m = false := by unfold extOk; rw [hr, ho, hm]; rfl
        have E := hide (extE_bad hxx)
        have E' := hide (extV_bad hxx)
        have HM := hide hm
        clear ho hxx hr hm hx hmx
        go_wp2_with (fail)
        refine (two_bad x m _ (Or.inr HM.out)).mono ?_
        rintro e w2 ⟨rfl, rfl⟩
        go_wp2_with ((with_reducible refine wpl_store 6 32 ?_ ?_ _ ?_ _ _ ?_ HK1.out noBank_size noBank_size noBank_one ?_); rfl; rfl; rfl; rfl)
        refine bodyPost_ret (v := .tuple #[.agg #[.int .i64 0, .int .i64 0, .int .i64 0, .int .i64 0, .int .i64 0, .int .i64 0, .int .i64 0, .int .i64 0], .iface 63 (.int .i64 1)]) ?_ rfl ⟨?_, ?_⟩
        · exact results_bank (p := 6) (u := 7) rfl _ _ (w.heap.size + 1) _ _ rfl rfl (setRow_heap _ _ _ _ _ _ HK1.out) noBank_size
        · rw [E.out, E'.out]; rfl
        · exact below_setRow HB1.out (by omega) _
      | true =>
        have hxx : extOk xs k m = true := extOk_iff.2 ⟨ho, hr, hm⟩
        have E := hide (extE_ok hxx)
        have E' := hide (extV_ok hxx)
        have HM := hide hm
        have HMX := hide hmx
        clear ho hxx hr hm hx hmx
        have HV := hide (show bankC (xs.set (k : Int).toNat (stp 7919 (xs.getD (k : Int).toNat 0) m)) = c.setIfInBounds k (.int .i64 (stp 7919 x m)) by
          rw [HC.out, bankC_set, Int.toNat_natCast, List.getD_eq_getElem?_getD, HX.out]; rfl)
        have HG2 := hide (heap_setCell_same w1 w.heap.size k c 54 (.int .i64 (stp 7919 x m)) HG1.out)
        have HK2 := hide ((heap_setCell_other w1 ⟨w.heap.size, k, none⟩ (w.heap.size + 1) (.int .i64 (stp 7919 x m)) (by simp)).trans HK1.out)
        have HS2 := hide (show (c.setIfInBounds k (.int .i64 (stp 7919 x m))).size = 8 by rw [Array.size_setIfInBounds]; exact HS.out)
        have HB2 := hide (HB1.out.setCell (p := ⟨w.heap.size, k, none⟩) (Nat.le_refl _) (.int .i64 (stp 7919 x m)))
        have HO2 := hide (show (c.setIfInBounds k (.int .i64 (stp 7919 x m))).all (·.oneCell') = true by rw [← HV.out]; exact bankC_one _)
        go_wp2_with (fail)
        refine (two_ok x m _ HMX.out HM.out).mono ?_
        rintro e w2 ⟨rfl, rfl⟩
        go_wp2_with (first | ((with_reducible refine wpl_load 3 ?_ ?_ _ ?_ _ _ HG2.out HS2.out ?_); rfl; rfl; rfl) | ((with_reducible refine wpl_store 6 37 ?_ ?_ _ ?_ _ _ ?_ HK2.out noBank_size HS2.out HO2.out ?_); rfl; rfl; rfl; rfl))
        refine bodyPost_ret (v := .tuple #[.agg (c.setIfInBounds k (.int .i64 (stp 7919 x m))), .nilIface]) ?_ rfl ⟨?_, ?_⟩
        · exact results_bank (p := 6) (u := 7) rfl _ _ (w.heap.size + 1) _ _ rfl rfl (setRow_heap _ _ _ _ _ _ HK2.out) HS2.out
        · rw [E.out, E'.out, HV.out]; rfl
        · exact below_setRow HB2.out (by omega) _
end Go.Proofs.YtgnpffkfbacejaaGreatDoor.Bank
namespace Go.Proofs.YtgnpffkfbacejaaGreatDoor.M

theorem all_eq {xs ys : List Int} (hx : xs.length = 8) (hy : ys.length = 8) : ((List.range 8).all fun i => xs.getD i 0 == ys.getD i 0) = decide (xs = ys) := by
  by_cases h : xs = ys
  · subst h; simp
  · rw [decide_eq_false h, Bool.eq_false_iff]
    intro hall
    apply h
    rw [List.all_eq_true] at hall
    apply List.ext_getElem?
    intro i
    by_cases hi : i < 8
    · have := hall i (List.mem_range.2 hi)
      have e1 : xs[i]? = some (xs[i]'(by omega)) := List.getElem?_eq_getElem (by omega)
      have e2 : ys[i]? = some (ys[i]'(by omega)) := List.getElem?_eq_getElem (by omega)
      simp only [List.getD_eq_getElem?_getD, e1, e2, Option.getD_some, beq_iff_eq] at this
      rw [e1, e2, this]
    · rw [List.getElem?_eq_none (by omega), List.getElem?_eq_none (by omega)]
theorem asked_all : askedL 255 8 = [0, 1, 2, 3, 4, 5, 6, 7] := by decide
theorem mask_all : isMask 255 = true := by decide
theorem differ_all {xs ys : List Int} (hx : xs.length = 8) (hy : ys.length = 8) : (!differ xs ys 255) = decide (xs = ys) := by
  rw [← all_eq hx hy]
  unfold differ
  rw [asked_all]
  simp [List.range, List.range.loop, bne, Bool.not_or]
theorem differ_self (xs : List Int) (m : Int) : differ xs xs m = false := by
  unfold differ
  rw [List.any_eq_false]
  intro i _
  simp
theorem pick_same {xs ys : List Int} {m : Int} (h : differ xs ys m = false) : pick xs (askedL m 8) = pick ys (askedL m 8) := by
  unfold differ at h
  rw [List.any_eq_false] at h
  unfold pick
  apply List.map_congr_left
  intro i hi
  have := h i hi
  simpa using this
theorem extV_eq {xs : List Int} {i m k : Int} (hl : xs.length = 8) (h1 : extOk xs i m = true) (h2 : extOk xs i k = true) : decide (extV xs i m = extV xs i k) = (m == k) := by
  obtain ⟨ho, hr, hm⟩ := extOk_iff.1 h1
  obtain ⟨_, _, hk⟩ := extOk_iff.1 h2
  have hr' := isReg_iff.1 hr
  by_cases e : m = k
  · subst e; simp
  · rw [beq_false_of_ne e]
    apply decide_eq_false
    rw [extV_ok h1, extV_ok h2]
    intro he
    apply e
    have := congrArg (fun l => l[i.toNat]?) he
    simp only [List.getElem?_set_self (show i.toNat < xs.length by omega), Option.some.injEq] at this
    exact stp_inj _ _ _ _ (isM_iff.1 hm).1 (isM_iff.1 hm).2 (isM_iff.1 hk).1 (isM_iff.1 hk).2 this
theorem extV_other {xs : List Int} {i m : Int} {k : Nat} (h1 : extOk xs i m = true) (hk : (k : Int) ≠ i) : (extV xs i m)[k]? = xs[k]? := by
  obtain ⟨ho, hr, hm⟩ := extOk_iff.1 h1
  have hr' := isReg_iff.1 hr
  rw [extV_ok h1, List.getElem?_set_ne (by omega)]
theorem heap_keep {w : World} {b : Nat} {o : Obj} (h : w.heap[b]? = some o) (o' : Obj) : (w.alloc o').heap[b]? = some o := (Go.RowKit.Below.heap_alloc w o' b (heap_lt h)).trans h
end Go.Proofs.YtgnpffkfbacejaaGreatDoor.M

namespace Go.Proofs.YtgnpffkfbacejaaGreatDoor.Bank
open Go.ChangeShapes Go.WideShapes Go.ChangeAt Go.RowKit
open Go.Proofs.YtgnpffkfbacejaaGreatDoor.M Go.Proofs.YtgnpffkfbacejaaGreatDoor.Measure
set_option linter.unusedVariables false

theorem part_bank {xs : List Int} {k : Nat} {x : Int} (h : xs[k]? = some x) (w : World) : (part 3 (bankC xs) k).run Tryz.prog w = .ok (.int .i64 x) w := by
  simp [part, isAgg, run_underlying Tryz.underlying3, bankC_at h]
theorem eqItems_bank (xs ys : List Int) (hx : xs.length = 8) (hy : ys.length = 8) (d : Nat) (w : World) : ∀ is : List Nat, (∀ i ∈ is, i < 8) →
    (Op.eqItems (d + 1) 3 1 (bankC xs) (bankC ys) is).run Tryz.prog w = .ok (is.all fun i => xs.getD i 0 == ys.getD i 0) w
  | [], _ => by simp [Op.eqItems]
  | i :: is, h => by
    have hi := h i (List.mem_cons_self ..)
    have e1 : xs[i]? = some (xs[i]'(by omega)) := List.getElem?_eq_getElem (by omega)
    have e2 : ys[i]? = some (ys[i]'(by omega)) := List.getElem?_eq_getElem (by omega)
    have ih := eqItems_bank xs ys hx hy d w is (fun j hj => h j (List.mem_cons_of_mem _ hj))
    simp only [Op.eqItems, Sem.run_bind, Nat.mul_one, part_bank e1, part_bank e2, Result.andThen_ok, run_equalIn_int w d 3 .i64 .i64 _ _ Tryz.underlying3]
    simp only [List.all_cons, List.getD_eq_getElem?_getD, e1, e2, Option.getD_some]
    cases hq : (xs[i]'(by omega) == ys[i]'(by omega)) with
    | true => simpa [List.getD_eq_getElem?_getD] using ih
    | false => simp
theorem eq_bank {xs ys : List Int} (hx : xs.length = 8) (hy : ys.length = 8) (w : World) :
    (Op.equalIn 10000 54 (.agg (bankC xs)) (.agg (bankC ys))).run Tryz.prog w = .ok (decide (xs = ys)) w := by
  obtain ⟨i, hi, _⟩ := info_parts info_int
  have hc : Tryz.prog.cellsOf 3 = 1 := by kernel_rfl
  rw [run_equalIn_array w 9999 _ _ Tryz.underlying54 hi, hc, eqItems_bank xs ys hx hy 9998 w _ (fun i hi => List.mem_range.1 hi), all_eq hx hy]

/-- The walk's step where a whole bank is stored into the block that was laid last. -/
theorem wpl_store_new {w : World} {ops : Array Oper} {rest : List Oper} {o : Oper} {a : Act} {Q : Exit → Act → World → Prop} (p q : Nat) (c d : Array Value) (hw : Region.wanted o (yielded ops a.tmps) = true) (ho : o.op = .store 54 (.tmp p) (.tmp q))
    (hx : a.eval (.tmp p) = .pointer (some ⟨w.heap.size, 0, none⟩)) (hv : a.eval (.tmp q) = .agg d) (hs : c.size = 8) (hs' : d.size = 8) (h1 : d.all (·.oneCell') = true)
    (h : wpList Tryz.prog ops Q rest (a.put o.dst undef) (w.alloc (.cells d 54))) : wpList Tryz.prog ops Q (o :: rest) a (w.alloc (.cells c 54)) :=
  wpl_store p q hw ho _ hx c d hv (heap_alloc_new w _) hs hs' h1 (by rw [World.setRow_alloc_new]; exact h)
end Go.Proofs.YtgnpffkfbacejaaGreatDoor.Bank
namespace Go.Proofs.YtgnpffkfbacejaaGreatDoor.M

theorem cop : Nat.Coprime 1000003 7919 := by decide +kernel
theorem dvd_of (d : Int) (h : (1000003 : Int) ∣ 7919 * d) : (1000003 : Int) ∣ d := by
  have h1 := Int.natAbs_dvd_natAbs.2 h
  rw [Int.natAbs_mul] at h1
  have h2 : 1000003 ∣ d.natAbs := Nat.Coprime.dvd_of_dvd_mul_left cop h1
  exact Int.natAbs_dvd_natAbs.1 h2
theorem dvd_small (d : Int) (h : (1000003 : Int) ∣ d) (h1 : -1000003 < d) (h2 : d < 1000003) : d = 0 := by
  obtain ⟨t, ht⟩ := h
  omega
theorem mod_sub (a b n : Int) (h : (7919 * a + n + 1) % 1000003 = (7919 * b + n + 1) % 1000003) : (1000003 : Int) ∣ 7919 * (a - b) := by
  have h1 := Int.dvd_of_emod_eq_zero (Int.emod_eq_emod_iff_emod_sub_eq_zero.1 h)
  have e : 7919 * a + n + 1 - (7919 * b + n + 1) = 7919 * (a - b) := by clear h h1; omega
  rw [e] at h1
  exact h1
theorem stp_left {a b n : Int} (ha : 0 ≤ a) (ha' : a < 1000003) (hb : 0 ≤ b) (hb' : b < 1000003) (h : stp 7919 a n = stp 7919 b n) : a = b := by
  have h1 := dvd_small (a - b) (dvd_of _ (mod_sub a b n h)) (by omega) (by omega)
  clear h
  omega
theorem allFrom_left : ∀ (xs : List Int) (a b : Int), 0 ≤ a → a < 1000003 → 0 ≤ b → b < 1000003 → allFrom a xs = allFrom b xs → a = b
  | [], a, b, _, _, _, _, h => h
  | x :: r, a, b, h0, h1, h2, h3, h => by
    have e : allFrom (stp 7919 a x) r = allFrom (stp 7919 b x) r := h
    exact stp_left h0 h1 h2 h3 (allFrom_left r _ _ (stp_ge _ _ _) (stp_lt _ _ _) (stp_ge _ _ _) (stp_lt _ _ _) e)
theorem allFrom_app (m : Int) (xs ys : List Int) : allFrom m (xs ++ ys) = allFrom (allFrom m xs) ys := by unfold allFrom; rw [List.foldl_append]
theorem allFrom_mid {p q : List Int} {x y : Int} (hx : isM x = true) (hy : isM y = true) (h : allFrom 0 (p ++ x :: q) = allFrom 0 (p ++ y :: q)) : x = y := by
  rw [allFrom_app, allFrom_app] at h
  have e : allFrom (stp 7919 (allFrom 0 p) x) q = allFrom (stp 7919 (allFrom 0 p) y) q := h
  have h1 := allFrom_left q _ _ (stp_ge _ _ _) (stp_lt _ _ _) (stp_ge _ _ _) (stp_lt _ _ _) e
  have hx' := isM_iff.1 hx
  have hy' := isM_iff.1 hy
  exact stp_inj _ _ _ _ hx'.1 hx'.2 hy'.1 hy'.2 h1
theorem askedL_nodup (m : Int) (n : Nat) : (askedL m n).Nodup := by
  induction n with
  | zero => exact List.nodup_nil
  | succ n ih =>
    cases h : bit m n with
    | false => rw [askedL_miss h]; exact ih
    | true =>
      rw [askedL_hit h, List.nodup_append]
      refine ⟨ih, by simp, ?_⟩
      intro a ha b hb
      obtain ⟨k, hk, rfl, _⟩ := askedL_mem ha
      rw [List.mem_singleton.1 hb]
      omega
theorem pick_set {xs : List Int} {k : Nat} {z : Int} {is : List Int} (h : ∀ i ∈ is, i.toNat ≠ k) : pick (xs.set k z) is = pick xs is := by
  unfold pick
  apply List.map_congr_left
  intro i hi
  rw [List.getD_eq_getElem?_getD, List.getD_eq_getElem?_getD, List.getElem?_set_ne (Ne.symm (h i hi))]
theorem pick_app (xs is js : List Int) : pick xs (is ++ js) = pick xs is ++ pick xs js := by unfold pick; rw [List.map_append]
/-- Where one register alone that is asked for is another one, so is what all come to. -/
theorem dig_set {xs : List Int} {k : Nat} {x z : Int} {m : Int} (hk : k < 8) (hx : xs[k]? = some x) (hmx : isM x = true) (hmz : isM z = true) (hb : bit m k = true)
    (h : allFrom 0 (pick xs (askedL m 8)) = allFrom 0 (pick (xs.set k z) (askedL m 8))) : x = z := by
  obtain ⟨p, q, e⟩ := List.append_of_mem (askedL_of hk hb)
  have hnd := askedL_nodup m 8
  rw [e] at hnd
  have hpos : ∀ i ∈ askedL m 8, 0 ≤ i := fun i hi => by obtain ⟨j, _, rfl, _⟩ := askedL_mem hi; omega
  have hne : ∀ i ∈ p ++ q, i.toNat ≠ k := by
    intro i hi he
    have hi' : i ∈ askedL m 8 := by
      rw [e]
      rcases List.mem_append.1 hi with h | h
      · exact List.mem_append_left _ h
      · exact List.mem_append_right _ (List.mem_cons_of_mem _ h)
    have : i = (k : Int) := by have := hpos i hi'; omega
    subst this
    rw [List.nodup_append] at hnd
    obtain ⟨_, h2, h3⟩ := hnd
    rcases List.mem_append.1 hi with h | h
    · exact h3 _ h _ (List.mem_cons_self) rfl
    · exact (List.nodup_cons.1 h2).1 h
  rw [e, pick_app, pick_app, pick_set (fun i hi => hne i (List.mem_append_left _ hi))] at h
  have e2 : pick (xs.set k z) ((k : Int) :: q) = z :: pick xs q := by
    have hz : (xs.set k z)[k]? = some z := List.getElem?_set_self (by exact (List.getElem?_eq_some_iff.1 hx).1)
    have := pick_set (xs := xs) (k := k) (z := z) (is := q) (fun i hi => hne i (List.mem_append_right _ hi))
    rw [← this]
    unfold pick
    rw [List.map_cons, List.getD_eq_getElem?_getD, Int.toNat_natCast, hz]
    rfl
  have e3 : pick xs ((k : Int) :: q) = x :: pick xs q := by
    unfold pick
    rw [List.map_cons, List.getD_eq_getElem?_getD, Int.toNat_natCast, hx]
    rfl
  rw [e2, e3] at h
  exact allFrom_mid hmx hmz h
theorem differ_iff {xs ys : List Int} {m : Int} : differ xs ys m = true ↔ ∃ k : Nat, k < 8 ∧ bit m k = true ∧ xs.getD k 0 ≠ ys.getD k 0 := by
  unfold differ
  rw [List.any_eq_true]
  constructor
  · rintro ⟨i, hi, h⟩
    obtain ⟨k, hk, rfl, hb⟩ := askedL_mem hi
    exact ⟨k, hk, hb, by simpa using h⟩
  · rintro ⟨k, hk, hb, h⟩
    exact ⟨k, askedL_of hk hb, by simpa using h⟩
theorem extV_all {xs : List Int} {i m : Int} (ho : extOk xs i m = true) : okAll (extV xs i m) = true := by
  obtain ⟨h1, h2, h3⟩ := extOk_iff.1 ho
  rw [extV_ok ho]
  refine okAll_of fun k x hx => ?_
  rw [List.getElem?_set] at hx
  split at hx
  · split at hx
    · cases hx; exact isM_iff.2 ⟨stp_ge _ _ _, stp_lt _ _ _⟩
    · cases hx
  · exact okAll_at h1 hx
/-- Extended by one register, the digest is as it was just where what is asked for is alike. -/
theorem dig_ext {xs : List Int} {i m mask : Int} (hl : xs.length = 8) (ho : extOk xs i m = true) (hm : isMask mask = true) :
    decide (digV (extV xs i m) mask = digV xs mask) = !differ xs (extV xs i m) mask := by
  obtain ⟨h1, h2, h3⟩ := extOk_iff.1 ho
  have hreg := isReg_iff.1 h2
  have ha := extV_all ho
  rw [digV_ok h1 hm, digV_ok ha hm]
  cases hd : differ xs (extV xs i m) mask with
  | false => rw [pick_same hd]; simp
  | true =>
    rw [Bool.not_true]
    apply decide_eq_false
    intro he
    obtain ⟨k, hk, hb, hne⟩ := differ_iff.1 hd
    obtain ⟨j, rfl⟩ : ∃ j : Nat, i = j := ⟨i.toNat, by omega⟩
    obtain ⟨x, hx⟩ : ∃ x, xs[j]? = some x := ⟨xs[j]'(by omega), List.getElem?_eq_getElem (by omega)⟩
    have hkj : k = j := by
      apply Decidable.byContradiction
      intro hn
      apply hne
      rw [List.getD_eq_getElem?_getD, List.getD_eq_getElem?_getD, extV_other ho (by omega)]
    subst hkj
    rw [extV_ok ho, Int.toNat_natCast] at he hne
    have hz := dig_set (z := stp 7919 (xs.getD k 0) m) hk hx (okAll_at h1 hx) (isM_iff.2 ⟨stp_ge _ _ _, stp_lt _ _ _⟩) hb he.symm
    apply hne
    rw [List.getD_eq_getElem?_getD (l := xs.set _ _), List.getElem?_set_self (by omega), List.getD_eq_getElem?_getD, hx] 
    rw [List.getD_eq_getElem?_getD, hx] at hz
    exact hz
theorem dig_same {xs ys : List Int} {mask : Int} (h : sameV xs ys mask = true) : digV xs mask = digV ys mask := by
  unfold sameV at h
  split at h
  · rename_i hh
    rw [digV_ok hh.1 hh.2.2, digV_ok hh.2.1 hh.2.2, pick_same (by simpa using h)]
  · cases h
theorem dig_range (xs : List Int) (m : Int) : 0 ≤ digV xs m ∧ digV xs m < 1000003 := by
  unfold digV
  split
  · exact allFrom_range 0 _ (by omega) (by omega)
  · omega
end Go.Proofs.YtgnpffkfbacejaaGreatDoor.M
