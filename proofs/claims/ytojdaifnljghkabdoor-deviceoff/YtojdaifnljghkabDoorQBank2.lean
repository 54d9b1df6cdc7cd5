/-
  Contracts of package bank's Digest and Same: what each returns for every bank and every mask, and that memory that was there stays as it was.
-/
import Derived.Test.YtojdaifnljghkabDoorQBank1
import Derived.Deep.WholeRow
import Derived.Deep.QuietTactic
namespace Go.Proofs.YtojdaifnljghkabDoor.Bank
open Go.ChangeShapes Go.WideShapes Go.ChangeAt Go.RowKit
open Go.Proofs.YtojdaifnljghkabDoor.M Go.Proofs.YtojdaifnljghkabDoor.Measure
set_option linter.unusedVariables false

theorem info_bank : (Tryd.prog.info? 59).map (·.size) = some 8 := by kernel_rfl
/-- A bank out of its block. -/
theorem load_bank {w : World} {b : Nat} {c : Array Value} {fr : Nat × Nat} (h : w.heap[b]? = some (.cells c 59 fr)) (hs : c.size = 8) : (loadVar 59 ⟨b, 0, none⟩).run Tryd.prog w = .ok (.agg c) w :=
  run_loadVar_row w b _ _ c fr _ h Tryd.underlying59 rfl (by rw [info_bank, hs])

/-- The walk's step there: the whole bank out of the block that a slot points to. -/
theorem wpl_load {w : World} {ops : Array Oper} {rest : List Oper} {o : Oper} {a : Act} {Q : Exit → Act → World → Prop} (p : Nat) (hw : Region.wanted o (yielded ops a.tmps) = true) (ho : o.op = .load 59 (.tmp p)) (b : Nat)
    (hx : a.eval (.tmp p) = .pointer (some ⟨b, 0, none⟩)) (c : Array Value) (fr : Nat × Nat) (hg : w.heap[b]? = some (.cells c 59 fr)) (hs : c.size = 8) (h : wpList Tryd.prog ops Q rest (a.put o.dst (.agg c)) w) : wpList Tryd.prog ops Q (o :: rest) a w :=
  wpList_step fun K hK => by
    simp only [hw, if_true]
    exact wp_load_row _ (.tmp p) ho b hx _ c fr _ hg Tryd.underlying59 rfl (by rw [info_bank, hs]) (hK _ _ h)
theorem heap_below {w w' : World} {B b : Nat} {o : Obj} (h : w.heap[b]? = some o) (hb : Below B w w') (hlt : b < B) : w'.heap[b]? = some o := (hb.block b hlt).trans h

set_option maxHeartbeats 2000000 in
theorem digest_any (xs : List Int) (c : Array Value) (m : Int) (w : World) (hc : c = bankC xs) (hl : xs.length = 8) :
    Calls Tryd.prog 29 #[.agg c, .int .i64 m] w fun e w' => e = .returned (.tuple #[.int .i64 (digV xs m), errV 46 (digE xs m)]) ∧ Below w.heap.size w w' := by
  have HC := hide hc
  have HL := hide hl
  have HS := hide (show c.size = 8 by rw [hc, bankC_size, hl])
  have HG := hide (heap_alloc_new w (.cells c 59))
  clear hc hl
  go_enter Tryd.func29, Tryd.ntmps29
  go_wp2_with ((with_reducible refine wpl_load 2 ?_ ?_ _ ?_ _ _ HG.out HS.out ?_); rfl; rfl; rfl)
  refine (check_any xs c _ HC.out HL.out).mono ?_
  rintro e w1 ⟨rfl, hb1⟩
  have HB1 := hide (((Below.refl _ w).alloc (Nat.le_refl _) (.cells c 59)).trans (hb1.mono (by simp)))
  have HG1 := hide (heap_below HG.out hb1 (by simp))
  clear hb1 HG
  cases ho : okAll xs with
  | false =>
    have E := hide (digE_bad (xs := xs) (m := m) (fun h => by rw [ho] at h; exact Bool.false_ne_true h.1))
    have E' := hide (digV_bad (xs := xs) (m := m) (fun h => by rw [ho] at h; exact Bool.false_ne_true h.1))
    rw [bankE_bad ho, errV_one]
    go_wp2
    go_ret2
    exact ⟨by rw [E.out, E'.out]; rfl, HB1.out⟩
  | true =>
    have HO := hide ho
    rw [bankE_ok ho, errV_zero]
    clear ho
    go_wp2_with (fail)
    refine (isMask_any m _).mono ?_
    rintro e w2 ⟨rfl, rfl⟩
    cases hm : isMask m with
    | false =>
      have E := hide (digE_bad (xs := xs) (m := m) (fun h => by rw [hm] at h; exact Bool.false_ne_true h.2))
      have E' := hide (digV_bad (xs := xs) (m := m) (fun h => by rw [hm] at h; exact Bool.false_ne_true h.2))
      go_wp2
      go_ret2
      exact ⟨by rw [E.out, E'.out]; rfl, HB1.out⟩
    | true =>
      have E := hide (digE_ok HO.out hm)
      have E' := hide (digV_ok HO.out hm)
      have hm01 := isMask_iff.1 hm
      obtain ⟨hm0, hm1⟩ := hm01
      go_wp2_with (fail)
      refine (asked_any m _ hm0 hm1).mono ?_
      rintro e w3 ⟨v, rfl, hown, hb3⟩
      obtain ⟨a, cap, rfl, _, hrow⟩ := hown.row
      have HROW := hide hrow
      have HB3 := hide (HB1.out.trans (hb3.mono HB1.out.size))
      have HG3 := hide (heap_below HG1.out hb3 (heap_lt HG1.out))
      have HLEN := hide (askedL_len m 8)
      clear hrow hown hb3
      go_wp2
      go_loopw [7, 9, 22] (fun v _ i wr => ∃ k : Nat, k ≤ (askedL m 8).length ∧ i = .int .i64 k ∧ Hid (Own wr w3.heap.size 3 v (pick xs ((askedL m 8).take k))) ∧ Hid (Below w3.heap.size w3 wr)) (fun _ _ i _ => (askedL m 8).length - (intOf i).toNat)
      case atStart => exact ⟨0, by omega, rfl, Own.nil _ _ _, Below.refl _ _⟩
      case round =>
        obtain ⟨k, hk, rfl, HOW, HBR⟩ := hrel
        have hsz := HBR.out.size
        by_cases hlt : k < (askedL m 8).length
        · obtain ⟨i, hi⟩ : ∃ i, (askedL m 8)[k]? = some i := ⟨_, List.getElem?_eq_getElem hlt⟩
          obtain ⟨j, hj, rfl, _⟩ := askedL_mem (List.mem_of_getElem? hi)
          obtain ⟨y, hy⟩ : ∃ y, xs[j]? = some y := ⟨_, List.getElem?_eq_getElem (by have := HL.out; omega)⟩
          have HX := hide hi
          have HY := hide hy
          have HGR := hide (heap_below HG3.out HBR.out (heap_lt HG3.out))
          have hcb : wr.cell? ⟨w.heap.size, j, none⟩ = some (.int .i64 y) := bank_cell (xs := xs) (t := 59) (fr := (0, 0)) (by rw [← HC.out]; exact HGR.out) HY.out
          have hrow : ∃ b off, a = some ⟨b, off, none⟩ ∧ wr.cell? ⟨b, off + k, none⟩ = some (.int .i64 j) := by
            rcases HROW.out.below HBR.out with h | ⟨b, off, h1, h2⟩
            · have := HX.out; rw [h] at this; simp at this
            · exact ⟨b, off, h1, h2 k j HX.out⟩
          obtain ⟨b, off, rfl, hc⟩ := hrow
          clear hi hy
          have hlen : (askedL m 8).length ≤ 8 := HLEN.out
          go_wp2_with (at_builtin; refine wpList_app rfl _ _ 100 rfl w3.heap.size 3 info_int Tryd.underlying100 _ (pick xs ((askedL m 8).take k)) rfl (HOW.out.alloc _) (some ⟨wr.heap.size, 0, none⟩) 1 1 [y] rfl rfl (fun h => by cases h) (Row.one _ _ _ (by simp)) (by rw [pick_len]; simp; omega) (by simp; omega) ?_; intro v' w5 ho hgr)
          go_roundw
          case rel => exact ⟨k + 1, by omega, by go_num, by rw [pick_take HX.out (by simpa using HY.out)]; exact ho, (HBR.out.alloc hsz _).grown hgr (by simp; omega) (fun k hk => HOW.out.block k hk)⟩
          case measure => simp [intOf]; omega
        · have htk : (askedL m 8).take k = askedL m 8 := List.take_of_length_le (by omega)
          obtain ⟨a7, cap7, rfl, _, hrow7⟩ := HOW.out.row
          rw [htk] at hrow7 ⊢
          have HR7 := hide hrow7
          have HB7 := hide (HB3.out.trans (HBR.out.mono HB3.out.size))
          clear hrow7 htk
          go_wp2_with (fail)
          refine (all_ok _ (pick xs (askedL m 8)) _ _ _ rfl (by rw [pick_len]; have := HLEN.out; omega) HR7.out (pick_ok HO.out HL.out m)).mono ?_
          rintro e w8 ⟨rfl, rfl⟩
          go_wp2
          go_ret2
          exact ⟨by rw [E.out, E'.out]; rfl, HB7.out⟩

end Go.Proofs.YtojdaifnljghkabDoor.Bank
