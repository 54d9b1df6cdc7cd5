/-
  Contracts of what package stairref1 says on banks (Bank, Asks, Digest, Digested): each returns what the plain mathematics says, and memory that was there stays as it was.
-/
import Derived.Test.YtjkcplpmhjnahaaGreatDoorPack1
import Derived.Test.YtjkcplpmhjnahaaGreatDoorQBank4
namespace Go.Proofs.YtjkcplpmhjnahaaGreatDoor.Ref
open Go.ChangeShapes Go.WideShapes Go.ChangeAt Go.RowKit
open Go.Proofs.YtjkcplpmhjnahaaGreatDoor.M Go.Proofs.YtjkcplpmhjnahaaGreatDoor.Bank
set_option linter.unusedVariables false

theorem bit_beq (m : Int) (k : Nat) : bit m k = (m / 2 ^ k % 2 == 1) := by
  unfold bit
  exact Bool.eq_iff_iff.2 (by simp)
theorem half (m : Int) (k : Nat) : m / 2 ^ k / 2 = m / 2 ^ (k + 1) := by
  rw [Int.ediv_ediv_of_nonneg (Int.pow_nonneg (by decide)), Int.pow_succ]
theorem half_range (m : Int) (k : Nat) (h0 : 0 ≤ m) (h1 : m ≤ 255) : 0 ≤ m / 2 ^ k ∧ m / 2 ^ k ≤ 255 := by
  have hp : (0 : Int) < 2 ^ k := Int.pow_pos (by decide)
  refine ⟨Int.ediv_nonneg h0 (by omega), ?_⟩
  exact Int.le_trans (Int.ediv_le_self _ h0) h1

set_option maxHeartbeats 1000000 in
theorem asks_any (m : Int) (n : Nat) (w : World) (h0 : 0 ≤ m) (h1 : m ≤ 255) (hn : n ≤ 8) :
    Calls Tryz.prog 36 #[.int .i64 m, .int .i64 n] w fun e w' => e = .returned (.bool (bit m n)) ∧ w' = w := by
  go_enter Tryz.func36, Tryz.ntmps36
  go_wp2
  go_loop [0, 5] (fun s0 s5 => ∃ k : Nat, k ≤ n ∧ s5 = .int .i64 k ∧ s0 = .int .i64 (m / 2 ^ k)) (fun _ i => n - (intOf i).toNat)
  case atStart => exact ⟨0, by omega, rfl, by simp⟩
  case round =>
    obtain ⟨k, hk, rfl, rfl⟩ := hrel
    have hr := half_range m k h0 h1
    have E := hide (half m k)
    have EB := hide (bit_beq m k)
    generalize m / 2 ^ k = q at hr E EB ⊢
    obtain ⟨r0, r1⟩ := hr
    by_cases hlt : k < n
    · go_wp2
      go_round
      case rel => exact ⟨k + 1, by omega, by go_num, by rw [← E.out]⟩
      case measure => simp [intOf]; omega
    · have hkn : k = n := by omega
      subst hkn
      go_wp2
      go_ret
      exact ⟨by rw [EB.out]; rfl, rfl⟩

set_option maxHeartbeats 2000000 in
theorem digest_ok (xs : List Int) (c : Array Value) (m : Int) (w : World) (hc : c = bankC xs) (hl : xs.length = 8) (ho : okAll xs = true) (hm : isMask m = true) :
    Calls Tryz.prog 19 #[.agg c, .int .i64 m] w fun e w' => e = .returned (.int .i64 (allFrom 0 (pick xs (askedL m 8)))) ∧ Below w.heap.size w w' := by
  have HC := hide hc
  have HL := hide hl
  have HO := hide ho
  have HG := hide (heap_alloc_new w (.cells c 30))
  have HB := hide ((Below.refl _ w).alloc (Nat.le_refl _) (.cells c 30))
  have hm01 := isMask_iff.1 hm
  obtain ⟨hm0, hm1⟩ := hm01
  clear hc hl ho hm
  go_enter Tryz.func19, Tryz.ntmps19
  go_wp2
  go_loopw [5, 6, 7] (fun v i _ wr => ∃ k : Nat, k ≤ 8 ∧ i = .int .i64 k ∧ Hid (Own wr (w.heap.size + 1) 3 v (pick xs (askedL m k))) ∧ Hid (Below (w.heap.size + 1) (w.alloc (.cells c 30)) wr)) (fun _ i _ _ => 8 - (intOf i).toNat)
  case atStart => exact ⟨0, by omega, rfl, Own.nil _ _ _, Below.refl _ _⟩
  case round =>
    obtain ⟨k, hk, rfl, HOW, HBR⟩ := hrel
    have hsz := HBR.out.size
    simp only [World.size_alloc] at hsz
    by_cases hlt : k < 8
    · obtain ⟨y, hy⟩ : ∃ y, xs[k]? = some y := ⟨_, List.getElem?_eq_getElem (by have := HL.out; omega)⟩
      have HY := hide hy
      have HGR := hide (heap_below HG.out HBR.out (by omega))
      have hcb : wr.cell? ⟨w.heap.size, k, none⟩ = some (.int .i64 y) := bank_cell (xs := xs) (t := 30) (fr := (0, 0)) (by rw [← HC.out]; exact HGR.out) hy
      clear hy
      go_wp2_with (fail)
      refine (asks_any m k _ hm0 hm1 (by omega)).mono ?_
      rintro e w6 ⟨rfl, rfl⟩
      cases hbit : bit m k with
      | true =>
        have E := hide (show pick xs (askedL m (k + 1)) = pick xs (askedL m k) ++ [y] by rw [askedL_hit hbit]; simp [pick, HY.out])
        have hlen := askedL_len m k
        go_wp2_with (at_builtin; refine wpList_app rfl _ _ 51 rfl (w.heap.size + 1) 3 info_int Tryz.underlying51 _ (pick xs (askedL m k)) rfl (HOW.out.alloc _) (some ⟨w6.heap.size, 0, none⟩) 1 1 [y] rfl rfl (fun h => by cases h) (Row.one _ _ _ (by simp)) (by rw [pick_len]; simp; omega) (by simp; omega) ?_; intro v' w5 ho hgr)
        go_roundw
        case rel => exact ⟨k + 1, by omega, by go_num, by rw [E.out]; exact ho, (HBR.out.alloc (by omega) _).grown hgr (by simp; omega) (fun k hk => HOW.out.block k hk)⟩
        case measure => simp [intOf]; omega
      | false =>
        have E := hide (askedL_miss hbit)
        go_wp2
        go_roundw
        case rel => exact ⟨k + 1, by omega, by go_num, by rw [E.out]; exact HOW, HBR⟩
        case measure => simp [intOf]; omega
    · have hk8 : k = 8 := by omega
      subst hk8
      obtain ⟨a7, cap7, rfl, _, hrow7⟩ := HOW.out.row
      have HR7 := hide hrow7
      have HB7 := hide (HB.out.trans (HBR.out.mono (by omega)))
      clear hrow7
      go_wp2_with (fail)
      refine (all_ok _ (pick xs (askedL m 8)) _ _ _ rfl (by rw [pick_len]; have := askedL_len m 8; omega) HR7.out (pick_ok HO.out HL.out m)).mono ?_
      rintro e w8 ⟨rfl, rfl⟩
      go_wp2
      go_ret
      exact ⟨rfl, HB7.out⟩

end Go.Proofs.YtjkcplpmhjnahaaGreatDoor.Ref
