/-
  Contracts of what package stairref1 says on the mask of rules and on whether a bank fits, where the rules and the bank are right: what each returns, and that memory that was there stays as it was.
-/
import Derived.Test.YtidnjnhmkhekeaaDoorQRuleRef
import Derived.WalkSmall
namespace Go.Proofs.YtidnjnhmkhekeaaDoor.M
theorem pow_step (j : Nat) : (2 : Int) * 2 ^ j = 2 ^ (j + 1) := by rw [Int.pow_succ, Int.mul_comm]
theorem pow_small {j : Nat} (h : j ≤ 7) : (1 : Int) ≤ 2 ^ j ∧ (2 : Int) ^ j ≤ 128 := by
  have : ∀ i : Fin 8, (1 : Int) ≤ 2 ^ i.val ∧ (2 : Int) ^ i.val ≤ 128 := by decide +kernel
  exact this ⟨j, by omega⟩
theorem rules_reg {l : List (Int × Value × List Int)} (h : rulesE (rulesL l) = 0) {k : Nat} {r : Int} {v : Value} {g : List Int} (hc : l[k]? = some (r, v, g)) : 0 ≤ r ∧ r < 8 := by
  obtain ⟨h1, _⟩ := rules_regs _ _ (rulesE_zero h).2
  exact isReg_iff.1 (h1 (r, g) (List.mem_of_getElem? (rulesL_at hc))).1
/-- Is a number among the first of some? -/
def anyTo (g : List Int) (y : Int) (j : Nat) : Bool := (g.take j).contains y
theorem anyTo_succ {g : List Int} {y x : Int} {j : Nat} (h : g[j]? = some x) : anyTo g y (j + 1) = (anyTo g y j || (x == y)) := by
  unfold anyTo
  rw [take_one h, Bool.eq_iff_iff, List.contains_iff_mem, Bool.or_eq_true, List.contains_iff_mem, List.mem_append, List.mem_singleton, beq_iff_eq]
  exact ⟨fun h => h.elim Or.inl (fun e => Or.inr e.symm), fun h => h.elim Or.inl (fun e => Or.inr e.symm)⟩
theorem anyTo_all (g : List Int) (y : Int) {j : Nat} (h : g.length ≤ j) : anyTo g y j = g.contains y := by unfold anyTo; rw [List.take_of_length_le h]
theorem fitsB_cons (r : Int) (g : List Int) (t : List (Int × List Int)) (b : List Int) : fitsB ((r, g) :: t) b = (g.contains (b.getD r.toNat 0) && fitsB t b) := by unfold fitsB; rw [List.all_cons]
end Go.Proofs.YtidnjnhmkhekeaaDoor.M
namespace Go.Proofs.YtidnjnhmkhekeaaDoor.Ref
open Go.ChangeShapes Go.WideShapes Go.ChangeAt Go.RowKit
open Go.Proofs.YtidnjnhmkhekeaaDoor.M
set_option linter.unusedVariables false

set_option maxRecDepth 20000 in
set_option maxHeartbeats 4000000 in
theorem fits_ok (a : Option Addr) (l : List (Int × Value × List Int)) (n cap : Nat) (ys : List Int) (bc : Array Value) (w : World) (hn : n = l.length) (hm : n ≤ maxLen) (hr : RulesIn w a l) (ho : rulesE (rulesL l) = 0) (hbc : bc = bankC ys) (hl : ys.length = 8) :
    Calls Tryd.prog 51 #[.slice a n cap, .agg bc] w fun e w' => e = .returned (.bool (fitsB (rulesL l) ys)) ∧ Below w.heap.size w w' := by
  have hm' : n ≤ 9223372036854775807 := by unfold maxLen at hm; omega
  have HN := hide hn
  have HR := hide hr
  have HO := hide ho
  have HL := hide hl
  have HBK := hide (show (w.alloc (.cells bc 38)).heap[w.heap.size]? = some (.cells (bankC ys) 38) by rw [← hbc]; exact Array.getElem?_push_size)
  have HB0 := hide ((Below.refl _ w).alloc (Nat.le_refl _) (.cells bc 38))
  clear hn hr hm ho hl hbc
  go_enter Tryd.func51, Tryd.ntmps51
  go_wp2
  go_loopw [5] (fun s5 wr => ∃ k : Nat, k ≤ n ∧ s5 = .int .i64 k ∧ Hid (fitsB (rulesL l) ys = fitsB ((rulesL l).drop k) ys) ∧ Hid (Below w.heap.size w wr) ∧ Hid (wr.heap[w.heap.size]? = some (.cells (bankC ys) 38))) (fun s5 _ => n - (intOf s5).toNat)
  case atStart => exact ⟨0, by omega, rfl, rfl, HB0.out, HBK.out⟩
  case round =>
    obtain ⟨k, hk, rfl, HF, HB, HK⟩ := hrel
    by_cases hlt : k < n
    · have hlz : (k : Int) < n := by omega
      obtain ⟨⟨r, v, g⟩, hc⟩ : ∃ c, l[k]? = some c := ⟨l[k]'(by have := HN.out; omega), List.getElem?_eq_getElem (by have := HN.out; omega)⟩
      have HC := hide hc
      obtain ⟨r0, r8⟩ := rules_reg HO.out hc
      have HD := hide (drop_cons (rulesL_at hc))
      clear hc
      simp only [] at HD
      obtain ⟨rn, rfl⟩ : ∃ rn : Nat, r = rn := ⟨r.toNat, by omega⟩
      obtain ⟨y, hy⟩ : ∃ y, ys[rn]? = some y := ⟨ys[rn]'(by have := HL.out; omega), List.getElem?_eq_getElem (by have := HL.out; omega)⟩
      have HY := hide hy
      have HGD := hide (show ys.getD ((rn : Int)).toNat 0 = y by rw [Int.toNat_natCast, List.getD_eq_getElem?_getD, hy]; rfl)
      clear hy
      obtain ⟨wo, hwo⟩ : ∃ wo, wo = wr := ⟨_, rfl⟩
      subst hwo
      obtain ⟨b, off, ad, gc, rfl, _, hgm, _, _, _, _⟩ := (HR.out.below HB.out).at HC.out
      have hgm' : g.length ≤ 9223372036854775807 := by unfold maxLen at hgm; omega
      clear hgm
      go_wp2
      go_loopw [6, 7] (fun s6 s7 w6 => ∃ j : Nat, j ≤ g.length ∧ s7 = .int .i64 j ∧ s6 = .bool (anyTo g y j) ∧ Hid (Below w.heap.size w w6) ∧ Hid (w6.heap[w.heap.size]? = some (.cells (bankC ys) 38))) (fun _ s7 _ => g.length - (intOf s7).toNat)
      case atStart => exact ⟨0, by omega, rfl, rfl, HB.out, HK.out⟩
      case round =>
        obtain ⟨j, hj, rfl, rfl, HB6, HK6⟩ := hrel
        obtain ⟨b2, off2, ad2, gc2, e2, e3, _, _, hrow, c0, c1⟩ := (HR.out.below HB6.out).at HC.out
        cases e2
        have HRW := hide hrow
        have hcb : wr.cell? ⟨w.heap.size, rn, none⟩ = some (.int .i64 y) := bank_cell HK6.out HY.out
        clear hrow e3
        by_cases hjl : j < g.length
        · have hjz : (j : Int) < g.length := by omega
          obtain ⟨x, hx⟩ : ∃ x, g[j]? = some x := ⟨g[j], List.getElem?_eq_getElem hjl⟩
          have AS := hide (anyTo_succ (y := y) hx)
          have hrow : ∃ b' off', ad2 = some ⟨b', off', none⟩ ∧ wr.cell? ⟨b', off' + j, none⟩ = some (.int .i64 x) := by
            rcases HRW.out with h | ⟨b', off', h1, h2⟩
            · rw [h] at hx; simp at hx
            · exact ⟨b', off', h1, h2 j x hx⟩
          obtain ⟨b', off', rfl, hcx⟩ := hrow
          clear hx
          cases hin : anyTo g y j with
          | true =>
            rw [hin] at AS
            go_wp2_with (fail)
            go_quiet (fail)
            go_wp2
            go_roundw
            case rel => exact ⟨j + 1, by omega, by go_num, by rw [AS.out]; rfl, below_quietR HB6.out _, HK6.out⟩
            case measure => simp [intOf]; omega
          | false =>
            rw [hin] at AS
            have rz : (rn : Int) < 8 := by omega
            have rz0 : (0 : Int) ≤ rn := by omega
            go_wp2_with (fail)
            go_quiet (fail)
            go_wp2
            go_roundw
            case rel => exact ⟨j + 1, by omega, by go_num, by rw [AS.out]; rfl, below_quietR HB6.out _, HK6.out⟩
            case measure => simp [intOf]; omega
        · have hjz : ¬ (j : Int) < g.length := by omega
          have AA := hide (anyTo_all g y (j := j) (by omega))
          have FC := hide (show fitsB (rulesL l) ys = (g.contains y && fitsB ((rulesL l).drop (k + 1)) ys) by rw [HF.out, HD.out, fitsB_cons, HGD.out])
          cases hin : anyTo g y j with
          | true =>
            have E := hide (show fitsB (rulesL l) ys = fitsB ((rulesL l).drop (k + 1)) ys by rw [FC.out, ← AA.out, hin]; rfl)
            go_wp2
            go_roundw
            case rel => exact ⟨k + 1, by omega, by go_num, E.out, HB6.out, HK6.out⟩
            case measure => simp [intOf]; omega
          | false =>
            have E := hide (show fitsB (rulesL l) ys = false by rw [FC.out, ← AA.out, hin]; rfl)
            go_wp2
            go_ret
            exact ⟨by rw [E.out]; rfl, HB6.out⟩
    · have hlz : ¬ (k : Int) < n := by omega
      have E := hide (show fitsB (rulesL l) ys = true by rw [HF.out, List.drop_eq_nil_of_le (by rw [rulesL_len]; have := HN.out; omega)]; rfl)
      go_wp2
      go_ret
      exact ⟨by rw [E.out]; rfl, HB.out⟩
end Go.Proofs.YtidnjnhmkhekeaaDoor.Ref
