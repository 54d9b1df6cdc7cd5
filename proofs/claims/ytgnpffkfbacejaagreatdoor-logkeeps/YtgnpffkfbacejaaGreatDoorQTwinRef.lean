/-
  Contract of what package stairref2 says on counts (Twin): a copy in new memory; memory that was there stays as it was.
-/
import Derived.Test.YtgnpffkfbacejaaGreatDoorQCntRef2
import Derived.Test.YtgnpffkfbacejaaGreatDoorQRecAt
import Derived.Deep.AppendLies
import Derived.Deep.RegionLaw
import Derived.Deep.DeepCutAuto
import Derived.Deep.WholeRow
namespace Go.Proofs.YtgnpffkfbacejaaGreatDoor.CntRef
open Go.ChangeShapes Go.WideShapes Go.ChangeAt Go.RowKit
open Go.Proofs.YtgnpffkfbacejaaGreatDoor.M
set_option linter.unusedVariables false
set_option linter.unusedSimpArgs false

theorem append_none (ty : TypeId) (W : World) : (Builtin.append_ #[36, 36] ty #[.slice none 0 0, .slice none 0 0]).run Tryz.prog W = .ok (.slice none 0 0) W := by kernel_rfl
/-- What is so behind it: the copy lies in new memory. -/
def Twin (w : World) (B : Nat) (cs : List (ByteArray × Int)) (g' : Nat) (w' : World) : Prop :=
  ∃ v', CIs w' B g' v' cs ∧ (∀ k, cfoot g' v' k → w.heap.size ≤ k) ∧ (cs = [] → v' = .slice none 0 0) ∧ Below w.heap.size w w'
theorem one_free {w : World} {b : Nat} {c : Array Value} {t : TypeId} (h : w.heap[b]? = some (.cells c t)) : w.frozen? ⟨b, 0, none⟩ = false := frozen_of_row w b 0 _ _ h

theorem twin_drew {w w' : World} {B : Nat} {cs : List (ByteArray × Int)} {g' : Nat} (h : Twin w B cs g' w') : Twin w B cs g' w'.drew := by
  obtain ⟨v', h1, h2, h3, h4⟩ := h
  exact ⟨v', h1, h2, h3, Below.drew h4⟩
theorem own_news {w : World} {B : Nat} {T : TypeId} {ga n cap : Nat} {cs : List (ByteArray × Int)} (h : OwnR 2 lstV w B T (.slice (some ⟨ga, 0, none⟩) n cap) cs) : ∀ (j : Nat) (u : Value), (cs.flatMap lstV)[j]? = some u → w.cell? (Addr.add ⟨ga, 0, none⟩ j) = some u := by
  intro j u hu
  rcases h.2 with ⟨e, _⟩ | ⟨g, cap', cur, e, _, hg, _, _, _, ht⟩
  · cases e
  · cases e
    rw [← ht] at hu
    rw [List.getElem?_take] at hu
    split at hu
    · have := World.news_of_block hg j u (by simpa using hu)
      exact this
    · cases hu
theorem lst_one (cs : List (ByteArray × Int)) : ∀ u ∈ cs.flatMap lstV, u.oneCell' = true := by
  intro u hu
  obtain ⟨c, _, hc⟩ := List.mem_flatMap.1 hu
  simp only [lstV, List.mem_cons, List.not_mem_nil, or_false] at hc
  rcases hc with rfl | rfl <;> rfl
theorem twin_fin {w : World} {B : Nat} {cs : List (ByteArray × Int)} (hB : B ≤ w.heap.size) (h5 : cs.length ≤ 12) (h6 : ∀ c ∈ cs, 0 < c.2) (h7 : ∀ c ∈ cs, c.1.size ≤ 8) (hne : ¬ cs = []) (W w3 : World) (g3 c3 : Nat) (hg : W.grownBy w3 (Value.slice none 0 0).ownBlock) (hat : (Value.slice none 0 0).ownBlock = some g3 ∨ g3 = W.heap.size) (hb : Below w.heap.size w W) (hs : W.heap.size = w.heap.size + 1)
    (hW : W.heap[w.heap.size]? = some (.cells #[.slice none 0 0] 38)) (ho : w3.ownsRow B 74 2 (.slice (some ⟨g3, 0, none⟩) (0 + cs.length) c3) (0 + cs.length) ([] ++ cs.flatMap lstV)) :
    w3.heap[w.heap.size]? = some (.cells #[.slice none 0 0] 38) ∧ Twin w B cs w.heap.size (w3.setRow w.heap.size #[.slice (some ⟨g3, 0, none⟩) cs.length c3]) := by
  have hg3 : g3 = w.heap.size + 1 := by
    rcases hat with e | e
    · cases e
    · omega
  have hk : w3.heap[w.heap.size]? = some (.cells #[.slice none 0 0] 38) := (hg.block w.heap.size (by omega) (by simp [Value.ownBlock])).trans hW
  rw [Nat.zero_add, List.nil_append] at ho
  have ho' : OwnR 2 lstV w3 B 74 (.slice (some ⟨g3, 0, none⟩) cs.length c3) cs := ho
  have hO : Only (fun k => k = w.heap.size) w3 (w3.setRow w.heap.size #[.slice (some ⟨g3, 0, none⟩) cs.length c3]) := (Only.refl (fun k => k = w.heap.size) w3).setRow (b := w.heap.size) rfl _
  have hbl : Below w.heap.size w w3 := ⟨hg.os.trans hb.os, hg.tape.trans hb.tape, hg.output.trans hb.output, Nat.le_trans hb.size hg.size, fun k hk => (hg.block k (by omega) (by simp [Value.ownBlock])).trans (hb.block k hk)⟩
  refine ⟨hk, .slice (some ⟨g3, 0, none⟩) cs.length c3, ⟨setRow_heap _ _ _ _ _ _ hk, ownR_only ho' hO (fun k hk' e => ?_), ?_, hB, h5, h6, h7⟩, fun k hk' => ?_, fun h => absurd h hne, hbl.trans (hO.below (B := w.heap.size) (Nat.le_trans hb.size hg.size) (fun k e => by rw [show k = w.heap.size from e]; exact Nat.le_refl _))⟩
  · have e2 : k = w.heap.size := e
    have e1 : k = g3 := by
      have h' : some g3 = some k := hk'
      exact (Option.some.inj h').symm
    omega
  · intro e
    have h' : some g3 = some w.heap.size := e
    have := Option.some.inj h'
    omega
  · rcases hk' with e | e
    · omega
    · have h' : some g3 = some k := e
      have := Option.some.inj h'
      omega

set_option maxHeartbeats 4000000 in
theorem twin_any (g : Nat) (v : Value) (cs : List (ByteArray × Int)) (w : World) (B : Nat) (h : CIs w B g v cs) (hv : cs = [] → v = .slice none 0 0) (hB : B ≤ w.heap.size) :
    Calls Tryz.prog 13 #[.pointer (some ⟨g, 0, none⟩)] w fun e w' => ∃ g', e = .returned (.pointer (some ⟨g', 0, none⟩)) ∧ Twin w B cs g' w' := by
  obtain ⟨h1, h2, h3, h4, h5, h6, h7⟩ := h
  have hb0 := blk_new w (.cells #[.slice none 0 0] 38)
  have hg0 := blk_keep h1 (.cells #[.slice none 0 0] 38)
  have HB0 := hide hb0
  have HBL := hide (below_new w (.cells #[.slice none 0 0] 38))
  have d0 := one_cell hb0
  have f0 := one_free hb0
  have c0 := one_cell hg0
  cases cs with
  | nil =>
    have e := hv rfl
    subst e
    have ap := append_none
    have HF : Hid (Twin w B [] w.heap.size (w.alloc (.cells #[.slice none 0 0] 38))) := ⟨_, ⟨hb0, OwnR.nil _ _ _, by simp [Value.ownBlock], hB, by simp, by simp, by simp⟩, (fun k hk => by
      rcases hk with h | h
      · omega
      · cases h), fun _ => rfl, HBL.out⟩
    have HST := hide (show (w.alloc (.cells #[.slice none 0 0] 38)).setCell ⟨w.heap.size, 0, none⟩ (.slice none 0 0) = w.alloc (.cells #[.slice none 0 0] 38) by rw [set_one hb0, World.setRow_alloc_new])
    clear h1 h2 h3 h4 h5 h6 h7 hv hb0 hg0 HB0 HBL
    go_enter Tryz.func13, Tryz.ntmps13
    go_wp2_with (fail)
    go_region_law (fail)
    all_goals
      go_wp2
      go_ret
      exact ⟨_, rfl, by repeat (first | exact HF.out | with_reducible apply twin_drew)⟩
  | cons c r =>
    have hlen : 0 < (c :: r).length := by simp
    obtain ⟨ga, cap, rfl⟩ := own_form h2 hlen
    obtain ⟨i0, hi0, hz0, hz1, hz2⟩ := info_parts info_least
    generalize hcs : c :: r = cs at *
    have hne : ¬ cs = [] := by rw [← hcs]; simp
    clear hcs c r hv
    have hnw := own_news h2
    have HNW := hide (fun (W : World) (hb : Below w.heap.size w W) => own_news (h2.below hb))
    have HLN := hide (show (cs.flatMap lstV).length = cs.length * 2 from h2.1)
    have HNE := hide hne
    have HFI := hide (show ∀ (W w3 : World) (g3 c3 : Nat), W.grownBy w3 (Value.slice none 0 0).ownBlock → ((Value.slice none 0 0).ownBlock = some g3 ∨ g3 = W.heap.size) → Below w.heap.size w W → W.heap.size = w.heap.size + 1 → W.heap[w.heap.size]? = some (.cells #[.slice none 0 0] 38) → w3.ownsRow B 74 2 (.slice (some ⟨g3, 0, none⟩) (0 + cs.length) c3) (0 + cs.length) ([] ++ cs.flatMap lstV) → w3.heap[w.heap.size]? = some (.cells #[.slice none 0 0] 38) ∧ Twin w B cs w.heap.size (w3.setRow w.heap.size #[.slice (some ⟨g3, 0, none⟩) cs.length c3]) from twin_fin hB h5 h6 h7 hne)
    have h12 := h5
    clear h1 h2 h3 h4 h5 h6 h7 hb0 hg0 hnw hne
    go_enter Tryz.func13, Tryz.ntmps13
    go_wp2_with (fail)
    go_region_law (refine step_append_lies _ rfl (.tmp 10) (.tmp 14) 36 rfl B 74 i0 (.agg #[.string { data := #[] }, .int .i64 0]) 2 24 Tryz.underlying36 hi0 hz0 hz1 hz2 rfl (by decide) (.slice none 0 0) 0 [] (by simp [Act.eval, Act.put]) (World.ownsRow_nil _ _ _ _) ⟨ga, 0, none⟩ cs.length cap (cs.flatMap lstV) (by simp [Act.eval, Act.put]) HLN.out (HNW.out _ (by repeat (first | exact HBL.out | with_reducible apply Below.drew))) (lst_one cs) hlen (by unfold maxLen; omega) (by omega) (by simp; omega) _ rfl ?_; intro g3 c3 w3 ho3 hg3 hat3 hlt3; obtain ⟨hG3, hF3⟩ := HFI.out _ w3 g3 c3 hg3 hat3 (by repeat (first | exact HBL.out | with_reducible apply Below.drew)) (by simp) HB0.out ho3; have s0 := one_cell hG3; have t0 := one_free hG3)
    all_goals
      go_wp2
      rw [set_one hG3]
      go_ret
      exact ⟨_, rfl, by repeat (first | exact hF3 | with_reducible apply twin_drew)⟩
end Go.Proofs.YtgnpffkfbacejaaGreatDoor.CntRef
