/-
  Contracts of what package stairref2 says on nonces (Issue, Use): what each returns, what becomes of the object, and that all else stays as it was.
-/
import Derived.Test.YtidnjnhmkhekeaaDoorPack1
import Derived.Deep.QuietTactic
import Derived.Deep.RegionHeld3
import Derived.Deep.AppendLies
import Derived.Deep.RegionLaw
import Derived.Deep.DeepCutAuto
import Derived.BigQuiet
namespace Go.Proofs.YtidnjnhmkhekeaaDoor.NonRef
open Go.ChangeShapes Go.WideShapes Go.ChangeAt Go.RowKit
open Go.Proofs.YtidnjnhmkhekeaaDoor.M
set_option linter.unusedVariables false
set_option linter.unusedSimpArgs false

def rfoot (g : Nat) (v : Value) (k : Nat) : Prop := k = g ∨ v.ownBlock = some k
/-- The reference's nonces in memory. -/
def RIs (W : World) (B g : Nat) (last many : Int) (v : Value) (xs : List Int) : Prop :=
  W.heap[g]? = some (.cells #[.int .i64 last, .int .i64 many, v] 55) ∧ Own W B 3 v xs ∧ v.ownBlock ≠ some g ∧ B ≤ g ∧ isM last = true ∧ 0 ≤ many ∧ many ≤ 30
theorem RIs.has {W : World} {B g : Nat} {v : Value} {last many : Int} {xs : List Int} (h : RIs W B g last many v xs) : ∀ k, rfoot g v k → B ≤ k ∧ k < W.heap.size := by
  obtain ⟨h1, h2, _, h4, _⟩ := h
  rintro k (rfl | hk)
  · exact ⟨h4, blk_lt h1⟩
  · exact ⟨h2.block k hk, h2.lt k hk⟩
theorem RIs.only {W W' : World} {B g : Nat} {v : Value} {T : Nat → Prop} {last many : Int} {xs : List Int} (h : RIs W B g last many v xs) (ho : Only T W W') (hn : ∀ k, rfoot g v k → ¬ T k) : RIs W' B g last many v xs := by
  obtain ⟨h1, h2, h3⟩ := h
  exact ⟨ho.heap h1 (hn g (Or.inl rfl)), h2.only ho (fun k hk => hn k (Or.inr hk)), h3⟩
theorem RIs.below {W W' : World} {B g : Nat} {v : Value} {last many : Int} {xs : List Int} (h : RIs W B g last many v xs) (hb : Below W.heap.size W W') : RIs W' B g last many v xs :=
  h.only (Only.of_below (S := fun _ => False) hb) (fun _ _ hf => hf)

set_option maxHeartbeats 2000000 in
theorem issue_full (g : Nat) (v : Value) (last many : Int) (xs : List Int) (w : World) (B : Nat) (h : RIs w B g last many v xs) (hf : 8 ≤ xs.length ∨ 30 ≤ many) :
    Calls Tryd.prog 19 #[.pointer (some ⟨g, 0, none⟩)] w fun e w' => e = .returned (.tuple #[.int .i64 0, .int .i64 4]) ∧ w' = w := by
  obtain ⟨h1, h2, _⟩ := h
  obtain ⟨a, cap, rfl, _, _⟩ := h2.row
  obtain ⟨r0, r1, r2⟩ := tri_cells h1
  clear h1 h2
  by_cases h8 : 8 ≤ xs.length
  · have hz : (8 : Int) ≤ xs.length := by omega
    clear h8 hf
    go_enter Tryd.func19, Tryd.ntmps19
    go_wp2
    go_ret2
    exact ⟨rfl, rfl⟩
  · have hz : ¬ (8 : Int) ≤ xs.length := by omega
    have h30 : 30 ≤ many := by omega
    clear h8 hf
    go_enter Tryd.func19, Tryd.ntmps19
    go_wp2
    go_ret2
    exact ⟨rfl, rfl⟩

theorem set_first {w : World} {b : Nat} {a0 a1 a2 z : Value} {t : TypeId} {fr : Nat × Nat} (hg : w.heap[b]? = some (.cells #[a0, a1, a2] t fr)) : w.setCell ⟨b, 0, none⟩ z = w.setRow b #[z, a1, a2] := by
  rw [setCell_eq_setRow w b 0 _ _ _ z hg]; rfl
theorem set_mid {w : World} {b : Nat} {a0 a1 a2 z : Value} {t : TypeId} {fr : Nat × Nat} (hg : w.heap[b]? = some (.cells #[a0, a1, a2] t fr)) : w.setCell ⟨b, 1, none⟩ z = w.setRow b #[a0, z, a2] := by
  rw [setCell_eq_setRow w b 1 _ _ _ z hg]; rfl
theorem set_last {w : World} {b : Nat} {a0 a1 a2 z : Value} {t : TypeId} {fr : Nat × Nat} (hg : w.heap[b]? = some (.cells #[a0, a1, a2] t fr)) : w.setCell ⟨b, 2, none⟩ z = w.setRow b #[a0, a1, z] := by
  rw [setCell_eq_setRow w b 2 _ _ _ z hg]; rfl

theorem fin {w w2 w3 : World} {B g g3 c3 cap : Nat} {a : Option Addr} {xs : List Int} {nx many : Int} (hne : (Value.slice a xs.length cap).ownBlock ≠ some g) (hQ : Only (fun k => k = g) w w2) (hS : w2.heap.size = w.heap.size) (hgl : g < w2.heap.size)
    (ho3 : w3.ownsRow B 3 1 (.slice (some ⟨g3, 0, none⟩) (xs.length + 1) c3) (xs.length + 1) (xs.map (Value.int .i64) ++ [.int .i64 nx]))
    (hg3 : (w2.alloc (.cells #[.int .i64 nx] 3)).drew.grownBy w3 (Value.slice a xs.length cap).ownBlock)
    (hat3 : (Value.slice a xs.length cap).ownBlock = some g3 ∨ g3 = (w2.alloc (.cells #[.int .i64 nx] 3)).drew.heap.size)
    (hG3 : w3.heap[g]? = some (.cells #[.int .i64 nx, .int .i64 (many + 1), .slice a xs.length cap] 55)) :
    ∃ v', (w3.setRow g #[.int .i64 nx, .int .i64 (many + 1), .slice (some ⟨g3, 0, none⟩) (xs.length + 1) c3]).heap[g]? = some (.cells #[.int .i64 nx, .int .i64 (many + 1), v'] 55) ∧ Own (w3.setRow g #[.int .i64 nx, .int .i64 (many + 1), .slice (some ⟨g3, 0, none⟩) (xs.length + 1) c3]) B 3 v' (xs ++ [nx]) ∧ v'.ownBlock ≠ some g ∧ Only (rfoot g (.slice a xs.length cap)) w (w3.setRow g #[.int .i64 nx, .int .i64 (many + 1), .slice (some ⟨g3, 0, none⟩) (xs.length + 1) c3]) ∧ (∀ k, rfoot g v' k → rfoot g (.slice a xs.length cap) k ∨ w.heap.size ≤ k) := by
  have hat : (Value.slice a xs.length cap).ownBlock = some g3 ∨ g3 = w.heap.size + 1 := by
    rcases hat3 with h | h
    · exact Or.inl h
    · refine Or.inr (h.trans ?_)
      show (w2.alloc (.cells #[.int .i64 nx] 3)).heap.size = _
      simp; exact hS
  have hn3 : g3 ≠ g := by
    rintro rfl
    rcases hat with h | h
    · exact hne h
    · omega
  have hown : Own w3 B 3 (.slice (some ⟨g3, 0, none⟩) (xs.length + 1) c3) (xs ++ [nx]) := by
    unfold Own
    rw [List.length_append, List.map_append]
    exact ho3
  refine ⟨.slice (some ⟨g3, 0, none⟩) (xs.length + 1) c3, setRow_heap _ _ _ _ _ _ hG3, hown.only (S := fun k => k = g) ((Only.refl (fun k => k = g) w3).setRow (b := g) rfl _) (fun k hk e => hn3 (by cases hk; exact e)), (fun e => hn3 (by cases e; rfl)), ?_, ?_⟩
  · have h1 : Only (rfoot g (.slice a xs.length cap)) w w2 := ⟨hQ.1, hQ.2.1, hQ.2.2.1, hQ.2.2.2.1, fun k hk hn => hQ.2.2.2.2 k hk (fun e => hn (Or.inl e))⟩
    exact (((h1.alloc (.cells #[.int .i64 nx] 3)).drew).grown hg3 (fun k hk => Or.inl (Or.inr hk))).setRow (b := g) (Or.inl rfl) _
  · rintro k (rfl | hk)
    · exact Or.inl (Or.inl rfl)
    · cases hk
      rcases hat with h | h
      · exact Or.inl (Or.inr h)
      · exact Or.inr (by show w.heap.size ≤ g3; omega)

set_option maxHeartbeats 4000000 in
theorem issue_ok (g : Nat) (v : Value) (last many : Int) (xs : List Int) (w : World) (B : Nat) (h : RIs w B g last many v xs) (h8 : xs.length < 8) (h30 : many < 30) (hB : B ≤ w.heap.size) :
    Calls Tryd.prog 19 #[.pointer (some ⟨g, 0, none⟩)] w fun e w' => ∃ v', e = .returned (.tuple #[.int .i64 (stp 7919 last many), .int .i64 0]) ∧ RIs w' B g (stp 7919 last many) (many + 1) v' (xs ++ [stp 7919 last many]) ∧ Only (rfoot g v) w w' ∧ (∀ k, rfoot g v' k → rfoot g v k ∨ w.heap.size ≤ k) := by
  obtain ⟨h1, h2, h3, h4, h5, h6, h7⟩ := h
  obtain ⟨a, cap, rfl, _, _⟩ := h2.row
  have HG := hide h1
  have HO := hide h2
  have HNE := hide h3
  obtain ⟨r0, r1, r2⟩ := tri_cells h1
  obtain ⟨f0, f1, f2⟩ := tri_free h1
  have TW := hide (fun W => Ref.two_ok last many W h5 (isM_iff.2 ⟨h6, by omega⟩))
  have hz : ¬ (8 : Int) ≤ xs.length := by omega
  have hz2 : ¬ 30 ≤ many := by omega
  have HX := hide (show isM (stp 7919 last many) = true from isM_iff.2 ⟨stp_ge _ _ _, stp_lt _ _ _⟩)
  clear h1 h2 h3 h5
  generalize stp 7919 last many = nx at *
  go_enter Tryd.func19, Tryd.ntmps19
  go_upto_region 3 with (fail)
  go_cut [17] (fun _ w' => Hid (w'.heap[g]? = some (.cells #[.int .i64 nx, .int .i64 many, .slice a xs.length cap] 55) ∧ Only (fun k => k = g) w w' ∧ w'.heap.size = w.heap.size))
  case first =>
    go_region_with (first
      | (go_at_call 45; refine (TW.out _).mono ?_; rintro e w6 ⟨rfl, rfl⟩))
    all_goals
      go_wp2
      rw [set_first HG.out]
      go_meet
      exact ⟨setRow_heap _ _ _ _ _ _ HG.out, ((Only.refl (fun k => k = g) w).setRow (b := g) rfl _).drew, by simp [World.setRow]⟩
  case rest =>
  obtain ⟨hG1, hQ1, hS1⟩ := Hid.out hcut
  have HO1 := hide (HO.out.only hQ1 (fun k hk e => HNE.out (by rw [hk, e])))
  have HG1 := hide hG1
  have HQ1 := hide hQ1
  have HS1 := hide hS1
  clear hcut r0 r1 r2 f0 f1 f2 HG HO TW hG1 hQ1 hS1
  obtain ⟨r0, r1, r2⟩ := tri_cells HG1.out
  obtain ⟨f0, f1, f2⟩ := tri_free HG1.out
  go_upto_region 5 with (fail)
  rw [set_mid HG1.out]
  have HQ2 := hide (HQ1.out.setRow (b := g) rfl #[.int .i64 nx, .int .i64 (many + 1), .slice a xs.length cap])
  have HG2 := hide (setRow_heap wc g _ #[.int .i64 nx, .int .i64 (many + 1), .slice a xs.length cap] _ _ HG1.out)
  have HO2 := hide (HO1.out.only (S := fun k => k = g) ((Only.refl (fun k => k = g) wc).setRow (b := g) rfl #[.int .i64 nx, .int .i64 (many + 1), .slice a xs.length cap]) (fun k hk e => HNE.out (by rw [hk, e])))
  have HS2 : Hid ((wc.setRow g #[.int .i64 nx, .int .i64 (many + 1), .slice a xs.length cap]).heap.size = w.heap.size) := (by simp [World.setRow]; exact HS1.out)
  clear r0 r1 r2 f0 f1 f2 HG1 HO1 HQ1 HS1
  generalize wc.setRow g #[.int .i64 nx, .int .i64 (many + 1), .slice a xs.length cap] = w2 at *
  obtain ⟨r0, r1, r2⟩ := tri_cells HG2.out
  obtain ⟨f0, f1, f2⟩ := tri_free HG2.out
  have hB2 : B ≤ w2.heap.size := by rw [HS2.out]; exact hB
  have hgl : g < w2.heap.size := blk_lt HG2.out
  obtain ⟨i0, hi0, hz0, hz1, hz2'⟩ := info_parts Bank.info_int
  have HOA := hide (HO2.out.alloc (.cells #[.int .i64 nx] 3))
  have HNW := hide (World.news_of_block (blk_new w2 (.cells #[.int .i64 nx] 3)))
  go_cut [36] (fun _ w' => Hid (∃ v', w'.heap[g]? = some (.cells #[.int .i64 nx, .int .i64 (many + 1), v'] 55) ∧ Own w' B 3 v' (xs ++ [nx]) ∧ v'.ownBlock ≠ some g ∧ Only (rfoot g (.slice a xs.length cap)) w w' ∧ (∀ k, rfoot g v' k → rfoot g (.slice a xs.length cap) k ∨ w.heap.size ≤ k)))
  case first =>
    go_region_law (refine step_append_lies _ rfl (.tmp 40) (.tmp 45) 48 rfl B 3 i0 (.int .i64 0) 1 8 Tryd.underlying48 hi0 hz0 hz1 hz2' rfl (by decide) (.slice a xs.length cap) xs.length (xs.map (Value.int .i64)) (by simp [Act.eval, Act.put]) HOA.out ⟨w2.heap.size, 0, none⟩ 1 1 [.int .i64 nx] (by simp [Act.eval, Act.put]) rfl HNW.out (by intro u hu; simp at hu; subst hu; rfl) (by decide) (by unfold maxLen; omega) (by omega) (by simp; omega) _ rfl ?_; intro g3 c3 w3 ho3 hg3 hat3 hlt3; have hG3 : w3.heap[g]? = some (.cells #[.int .i64 nx, .int .i64 (many + 1), .slice a xs.length cap] 55) := (hg3.block g (by simp; omega) (fun e => HNE.out e.symm)).trans (blk_keep HG2.out (.cells #[.int .i64 nx] 3)); obtain ⟨s0, s1, s2⟩ := tri_cells hG3; obtain ⟨t0, t1, t2⟩ := tri_free hG3)
    all_goals
      go_wp2
      rw [set_last hG3]
      go_meet
      exact fin HNE.out HQ2.out HS2.out hgl ho3 hg3 hat3 hG3
  case rest =>
  obtain ⟨v', k1, k2, k3, k4, k5⟩ := Hid.out hcut
  have HFI : Hid (RIs wc B g nx (many + 1) v' (xs ++ [nx])) := ⟨k1, k2, k3, h4, HX.out, by omega, by omega⟩
  have HFO := hide k4
  have HFF := hide k5
  obtain ⟨a', cap', rfl, _, _⟩ := k2.row
  clear hcut r0 r1 r2 f0 f1 f2
  obtain ⟨r0, r1, r2⟩ := tri_cells k1
  clear k1 k2 k3 k4 k5
  go_wp2
  go_ret2
  exact ⟨rfl, _, HFI.out, HFO.out, HFF.out⟩
end Go.Proofs.YtidnjnhmkhekeaaDoor.NonRef
