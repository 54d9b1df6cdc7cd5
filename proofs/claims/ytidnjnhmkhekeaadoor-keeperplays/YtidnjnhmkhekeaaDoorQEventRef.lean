/-
  Contracts of what package stairref2 says on events (Events, Replay): each returns what the plain mathematics says, and memory that was there stays as it was.
-/
import Derived.Test.YtidnjnhmkhekeaaDoorPack1
import Derived.Deep.RegionWith
import Derived.Deep.DeepCutAuto
import Derived.Deep.CutBlock
namespace Go.Proofs.YtidnjnhmkhekeaaDoor.EventRef
open Go.ChangeShapes Go.WideShapes Go.ChangeAt Go.RowKit
open Go.Proofs.YtidnjnhmkhekeaaDoor.M
set_option linter.unusedVariables false

theorem all_not {l : List (Int × Int)} {k : Nat} {e : Int × Int} (h : l[k]? = some e) (hb : evOk e = false) : l.all evOk = false := by
  apply Bool.eq_false_iff.2
  intro c
  have := List.all_eq_true.1 c e (List.mem_of_getElem? h)
  rw [hb] at this
  cases this
theorem all_take {l : List (Int × Int)} {k : Nat} {e : Int × Int} (h : l[k]? = some e) (ha : (l.take k).all evOk = true) (hb : evOk e = true) : (l.take (k + 1)).all evOk = true := by
  rw [take_one h, List.all_append, ha]
  simp [hb]

set_option maxHeartbeats 2000000 in
theorem events_any (a : Option Addr) (l : List (Int × Int)) (n cap : Nat) (w : World) (hn : n = l.length) (hm : n ≤ maxLen) (hr : RRow 2 evV w a l) :
    Calls Tryd.prog 47 #[.slice a n cap] w fun e w' => e = .returned (.int .i64 (evE l)) ∧ w' = w := by
  have hm' : n ≤ 9223372036854775807 := by unfold maxLen at hm; omega
  have HN := hide hn
  have HR := hide hr
  clear hn hr hm
  by_cases h30 : 30 < n
  · have hz : (30 : Int) < n := by omega
    have E := hide (evE_full (l := l) (by have := HN.out; omega))
    go_enter Tryd.func47, Tryd.ntmps47
    go_wp2
    go_ret
    exact ⟨by rw [E.out]; rfl, rfl⟩
  · have hz : ¬ (30 : Int) < n := by omega
    have HF := hide (show ¬ 30 < l.length by have := HN.out; omega)
    go_enter Tryd.func47, Tryd.ntmps47
    go_wp2
    go_loopw [3, 4] (fun s3 _ wr => ∃ k : Nat, k ≤ n ∧ s3 = .int .i64 k ∧ Hid ((l.take k).all evOk = true) ∧ wr = w) (fun s3 _ _ => n - (intOf s3).toNat)
    case atStart => exact ⟨0, by omega, rfl, rfl, rfl⟩
    case round =>
      obtain ⟨k, hk, rfl, HA, rfl⟩ := hrel
      by_cases hlt : k < n
      · have hlz : (k : Int) < n := by omega
        obtain ⟨⟨r, m⟩, hc⟩ : ∃ c, l[k]? = some c := ⟨l[k]'(by have := HN.out; omega), List.getElem?_eq_getElem (by have := HN.out; omega)⟩
        obtain ⟨b, off, rfl, hcell⟩ := HR.out.at hc
        have c0 := hcell 0 (.int .i64 r) rfl
        have c1 := hcell 1 (.int .i64 m) rfl
        simp only [Nat.add_zero] at c0
        have HNO := hide (fun (hb : evOk (r, m) = false) => evE_bad HF.out (all_not hc hb))
        have HYE := hide (fun (hb : evOk (r, m) = true) => all_take hc HA.out hb)
        have HEV := hide (show evOk (r, m) = (isReg r && isM m) from rfl)
        clear hcell hc
        by_cases h0 : r < 0
        · have E := hide (HNO.out (by rw [HEV.out, isReg_false.2 (by omega)]; rfl))
          go_wp2_with (go_at_call 17; refine (Ref.is_any _ _).mono ?_; rintro e w' ⟨rfl, rfl⟩)
          go_ret
          exact ⟨by rw [E.out]; rfl, rfl⟩
        · by_cases h7 : 7 < r
          · have E := hide (HNO.out (by rw [HEV.out, isReg_false.2 (by omega)]; rfl))
            go_wp2_with (go_at_call 17; refine (Ref.is_any _ _).mono ?_; rintro e w' ⟨rfl, rfl⟩)
            go_ret
            exact ⟨by rw [E.out]; rfl, rfl⟩
          · have hre : isReg r = true := isReg_iff.2 (by omega)
            cases hi : isM m with
            | false =>
              have E := hide (HNO.out (by rw [HEV.out, hi, hre]; rfl))
              clear hre
              go_wp2_with (go_at_call 17; refine (Ref.is_any _ _).mono ?_; rintro e w' ⟨rfl, rfl⟩)
              go_ret
              exact ⟨by rw [E.out]; rfl, rfl⟩
            | true =>
              have E := hide (HYE.out (by rw [HEV.out, hi, hre]; rfl))
              clear hre
              go_wp2_with (go_at_call 17; refine (Ref.is_any _ _).mono ?_; rintro e w' ⟨rfl, rfl⟩)
              go_roundw
              case rel => exact ⟨k + 1, by omega, by go_num, E.out, by trivial⟩
              case measure => simp [intOf]; omega
      · have hlz : ¬ (k : Int) < n := by omega
        have E := hide (evE_ok HF.out (by have h1 := HA.out; rw [List.take_of_length_le (by have := HN.out; omega)] at h1; exact h1))
        go_wp2
        go_ret
        exact ⟨by rw [E.out]; rfl, rfl⟩

/-- Where the answer will lie, and the bank so far, and that all else is as it was. -/
def Inv (w0 : World) (xs : List Int) (W : World) : Prop :=
  Below w0.heap.size w0 W ∧ W.heap[w0.heap.size]? = some (.cells #[.int .i64 0, .int .i64 0, .int .i64 0, .int .i64 0, .int .i64 0, .int .i64 0, .int .i64 0, .int .i64 0] 38) ∧ W.heap[w0.heap.size + 1]? = some (.cells (bankC xs) 38)
theorem drew_heap (w : World) : w.drew.heap = w.heap := rfl
theorem inv_drew (w0 : World) (xs : List Int) (W : World) : Inv w0 xs W.drew = Inv w0 xs W := by
  unfold Inv
  rw [drew_heap]
  exact propext ⟨fun h => ⟨⟨h.1.os, h.1.tape, h.1.output, h.1.size, h.1.block⟩, h.2⟩, fun h => ⟨Below.drew h.1, h.2⟩⟩
theorem inv_set {w0 W : World} {xs : List Int} (h : Inv w0 xs W) (k : Nat) (v : Int) : Inv w0 (xs.set k v) (W.setCell ⟨w0.heap.size + 1, k, none⟩ (.int .i64 v)) := by
  obtain ⟨h1, h2, h3⟩ := h
  refine ⟨h1.setCell (Nat.le_succ _) _, (Below.heap_setCell _ _ _ _ (by show w0.heap.size ≠ w0.heap.size + 1; omega)).trans h2, ?_⟩
  rw [setCell_eq_setRow W _ k _ _ _ _ h3, bankC_set]
  exact setRow_heap _ _ _ _ _ _ h3
theorem res_one {fn : Func} {p : Tmp} {ty : TypeId} (h : fn.results = #[.cell p ty]) (tmps : Array Value) (P : Program) (w : World) :
    (results fn tmps).run P w = ((asAddr (tmps.getD p undef)).run P w).andThen fun a w1 => (loadVar ty a).run P w1 := by
  simp only [results, h]
  simp [Sem.run_bind, Result.andThen]
theorem results_bk {fn : Func} {p : Tmp} (h : fn.results = #[.cell p 38]) (tmps : Array Value) (w : World) (b : Nat) (c : Array Value) (hp : tmps.getD p undef = .pointer (some ⟨b, 0, none⟩))
    (hg : w.heap[b]? = some (.cells c 38)) (hs : c.size = 8) : (results fn tmps).run Tryd.prog w = .ok (.agg c) w := by
  rw [res_one h, hp]
  simp [asAddr, Bank.load_bank hg hs, Result.andThen]

set_option maxHeartbeats 4000000 in
theorem replay_ok (a : Option Addr) (l : List (Int × Int)) (n cap : Nat) (w : World) (hn : n = l.length) (hm : n ≤ maxLen) (hr : RRow 2 evV w a l) (ho : l.all evOk = true) :
    Calls Tryd.prog 48 #[.slice a n cap] w fun e w' => e = .returned (.agg (bankC (repV l))) ∧ Below w.heap.size w w' := by
  have hm' : n ≤ 9223372036854775807 := by unfold maxLen at hm; omega
  have HN := hide hn
  have HR := hide hr
  have HO := hide ho
  have HI0 : Hid (Inv w noBank ((w.alloc (.cells #[.int .i64 0, .int .i64 0, .int .i64 0, .int .i64 0, .int .i64 0, .int .i64 0, .int .i64 0, .int .i64 0] 38)).alloc (.cells #[.int .i64 0, .int .i64 0, .int .i64 0, .int .i64 0, .int .i64 0, .int .i64 0, .int .i64 0, .int .i64 0] 38))) :=
    ⟨((Below.refl _ w).alloc (Nat.le_refl _) _).alloc (by simp) _, heap_alloc2_old w _ _, heap_alloc2_new w _ _⟩
  clear hn hr hm ho
  go_enter Tryd.func48, Tryd.ntmps48
  go_wp2
  go_loopw [4] (fun s4 wr => ∃ k : Nat, k ≤ n ∧ s4 = .int .i64 k ∧ Hid (Inv w (repV (l.take k)) wr)) (fun s4 _ => n - (intOf s4).toNat)
  case atStart => exact ⟨0, by omega, rfl, HI0.out⟩
  case round =>
    obtain ⟨k, hk, rfl, HI⟩ := hrel
    clear HI0
    by_cases hlt : k < n
    · have hlz : (k : Int) < n := by omega
      obtain ⟨⟨r, m⟩, hc⟩ : ∃ c, l[k]? = some c := ⟨l[k]'(by have := HN.out; omega), List.getElem?_eq_getElem (by have := HN.out; omega)⟩
      obtain ⟨hr1, hr2⟩ := evOk_iff.1 (List.all_eq_true.1 HO.out _ (List.mem_of_getElem? hc))
      have hr3 := isReg_iff.1 hr1
      simp only [] at hr1 hr2 hr3
      obtain ⟨kr, rfl⟩ : ∃ kr : Nat, r = kr := ⟨r.toNat, by omega⟩
      have hk8 : kr < 8 := by omega
      have hk8z : (kr : Int) < 8 := by omega
      have HT := hide (repV_take hc)
      obtain ⟨b, off, rfl, hcell⟩ := (HR.out.below HI.out.1).at hc
      have c0 := hcell 0 (.int .i64 kr) rfl
      have c1 := hcell 1 (.int .i64 m) rfl
      simp only [Nat.add_zero] at c0
      have hlen := repV_len (l.take k)
      have hoks := repV_ok (l.take k)
      generalize repV (l.take k) = xs at *
      obtain ⟨y, hy⟩ : ∃ y, xs[kr]? = some y := ⟨_, List.getElem?_eq_getElem (by omega)⟩
      have hq : wr.cell? ⟨w.heap.size + 1, kr, none⟩ = some (.int .i64 y) := bank_cell HI.out.2.2 hy
      have hf : wr.frozen? ⟨w.heap.size + 1, kr, none⟩ = false := frozen_of_row wr _ kr _ _ HI.out.2.2
      have TW := hide (fun W => Ref.two_ok y m W (okAll_at hoks hy) hr2)
      have HPU := hide (show repV (l.take (k + 1)) = xs.set kr (stp 7919 y m) by rw [HT.out]; unfold putR; simp [hy])
      clear hcell hc hy hlen hoks hr1 hr2 hr3 HT
      generalize stp 7919 y m = nx at *
      go_upto_block 1 with (fail)
      go_cut [] from 5 to 29 (fun w' => Hid (Inv w (xs.set kr nx) w'))
      case first =>
        go_wp2_with (fail)
        go_region_with (first | (go_at_call 45; refine (TW.out _).mono ?_; rintro e w6 ⟨rfl, hw6⟩; rw [hw6]; clear hw6))
        all_goals
          go_wp2
          go_meet
          simp only [inv_drew]
          exact inv_set HI.out kr nx
      case rest =>
      have HI2 := hide hcut
      clear hcut HI c0 c1 hq hf TW
      go_wp2
      go_roundw
      case rel => exact ⟨k + 1, by omega, by go_num, by rw [HPU.out]; exact HI2.out⟩
      case measure => simp [intOf]; omega
    · have hlz : ¬ (k : Int) < n := by omega
      have HI2 := hide (show Inv w (repV l) wr by have h1 := HI.out; rw [List.take_of_length_le (by have := HN.out; omega)] at h1; exact h1)
      clear HI
      have HS := hide (show (bankC (repV l)).size = 8 by rw [bankC_size, repV_len])
      have HZ := hide HI2.out.2.1
      have HQ := hide HI2.out.2.2
      go_wp2_with (first | ((with_reducible refine Bank.wpl_load 3 ?_ ?_ _ ?_ _ _ HQ.out HS.out ?_); rfl; rfl; rfl) | ((with_reducible refine Bank.wpl_store 2 30 ?_ ?_ _ ?_ _ _ ?_ HZ.out Bank.noBank_size HS.out (Bank.bankC_one _) ?_); rfl; rfl; rfl; rfl))
      refine bodyPost_ret (v := .agg (bankC (repV l))) ?_ rfl ⟨rfl, ?_⟩
      · exact results_bk (p := 2) rfl _ _ w.heap.size _ rfl (setRow_heap _ _ _ _ _ _ HZ.out) HS.out
      · exact below_setRow HI2.out.1 (Nat.le_refl _) _
end Go.Proofs.YtidnjnhmkhekeaaDoor.EventRef
