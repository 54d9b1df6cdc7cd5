/-
  Contracts of package nonce's New, Issue and Open over this translation: what each returns, what becomes of the object, and that all else stays as it was.
-/
import Derived.Test.YtidnjnhmkhekeaaDoorPack2
import Derived.Test.YtidnjnhmkhekeaaDoorPack1
import Derived.Deep.QuietTactic
import Derived.BigQuiet
namespace Go.Proofs.YtidnjnhmkhekeaaDoor.Nonce
open Go.ChangeShapes Go.WideShapes Go.ChangeAt Go.RowKit
open Go.Proofs.YtidnjnhmkhekeaaDoor.M Go.Proofs.YtidnjnhmkhekeaaDoor.Measure
set_option linter.unusedVariables false

/-- The blocks of an object that lies at g and whose row is v. -/
def foot (g : Nat) (v : Value) (k : Nat) : Prop := k = g ∨ v.ownBlock = some k
/-- Nonces in memory: the last number, how many were issued, and which are open. -/
def NIs (W : World) (B g : Nat) (last many : Int) (v : Value) (xs : List Int) : Prop :=
  W.heap[g]? = some (.cells #[.int .i64 last, .int .i64 many, v] 117) ∧ Own W B 3 v xs ∧ v.ownBlock ≠ some g ∧ B ≤ g ∧ isM last = true ∧ 0 ≤ many ∧ many ≤ 30
/-- The same, by the pointer, and the blocks that it has. -/
def Non (W : World) (B : Nat) (p : Value) (S : Nat → Prop) (last many : Int) (xs : List Int) : Prop :=
  ∃ g v, p = .pointer (some ⟨g, 0, none⟩) ∧ S = foot g v ∧ NIs W B g last many v xs
theorem Non.has {W : World} {B : Nat} {p : Value} {S : Nat → Prop} {last many : Int} {xs : List Int} (h : Non W B p S last many xs) : ∀ k, S k → B ≤ k ∧ k < W.heap.size := by
  obtain ⟨g, v, _, rfl, h1, h2, _, h4, _⟩ := h
  rintro k (rfl | hk)
  · exact ⟨h4, blk_lt h1⟩
  · exact ⟨h2.block k hk, h2.lt k hk⟩
theorem Non.only {W W' : World} {B : Nat} {p : Value} {S T : Nat → Prop} {last many : Int} {xs : List Int} (h : Non W B p S last many xs) (ho : Only T W W') (hn : ∀ k, S k → ¬ T k) : Non W' B p S last many xs := by
  obtain ⟨g, v, hp, rfl, h1, h2, h3⟩ := h
  exact ⟨g, v, hp, rfl, ho.heap h1 (hn g (Or.inl rfl)), h2.only ho (fun k hk => hn k (Or.inr hk)), h3⟩
theorem Non.below {W W' : World} {B : Nat} {p : Value} {S : Nat → Prop} {last many : Int} {xs : List Int} (h : Non W B p S last many xs) (hb : Below W.heap.size W W') : Non W' B p S last many xs :=
  h.only (Only.of_below (S := fun _ => False) hb) (fun _ _ hf => hf)
theorem Non.range {W : World} {B : Nat} {p : Value} {S : Nat → Prop} {last many : Int} {xs : List Int} (h : Non W B p S last many xs) : 0 ≤ many ∧ many ≤ 30 ∧ isM last = true := by
  obtain ⟨g, v, _, _, _, _, _, _, h5, h6, h7⟩ := h
  exact ⟨h6, h7, h5⟩
theorem quiet_below {W : World} (n : Nat) : Below W.heap.size W (W.drewN n) := by
  induction n with
  | zero => exact Below.refl _ _
  | succ n ih => exact Below.drew ih

set_option maxHeartbeats 2000000 in
theorem new_no (s : Int) (w : World) (h : isM s = false) :
    Calls Tryd.prog 28 #[.int .i64 s] w fun e w' => e = .returned (.tuple #[.pointer none, .iface 77 (.int .i64 1)]) ∧ Below w.heap.size w w' := by
  go_enter Tryd.func28, Tryd.ntmps28
  go_wp2_with (go_at_call 27; refine (is_any _ _).mono ?_; rintro e w ⟨rfl, rfl⟩)
  go_ret2
  exact ⟨rfl, Below.refl _ _⟩
set_option maxHeartbeats 2000000 in
theorem new_ok (s : Int) (w : World) (B : Nat) (h : isM s = true) (hB : B ≤ w.heap.size) :
    Calls Tryd.prog 28 #[.int .i64 s] w fun e w' => ∃ p S, e = .returned (.tuple #[p, .nilIface]) ∧ Non w' B p S s 0 [] ∧ (∀ k, S k → w.heap.size ≤ k) ∧ Below w.heap.size w w' := by
  have HN : Hid (Non (w.alloc (.cells #[.int .i64 s, .int .i64 0, .slice none 0 0] 117)) B (.pointer (some ⟨w.heap.size, 0, none⟩)) (foot w.heap.size (.slice none 0 0)) s 0 []) :=
    ⟨_, _, rfl, rfl, blk_new _ _, Own.nil _ _ _, by simp [Value.ownBlock], hB, h, by omega, by omega⟩
  have HF : Hid (∀ k, foot w.heap.size (.slice none 0 0) k → w.heap.size ≤ k) := by
    rintro k (rfl | hk)
    · exact Nat.le_refl _
    · cases hk
  clear hB
  go_enter Tryd.func28, Tryd.ntmps28
  go_wp2_with (go_at_call 27; refine (is_any _ _).mono ?_; rintro e w ⟨rfl, rfl⟩)
  go_ret2
  exact ⟨_, _, rfl, HN.out, HF.out, below_new _ _⟩
set_option maxHeartbeats 2000000 in
theorem issue_full (p : Value) (S : Nat → Prop) (last many : Int) (xs : List Int) (w : World) (B : Nat) (h : Non w B p S last many xs) (hf : 8 ≤ xs.length ∨ 30 ≤ many) :
    Calls Tryd.prog 31 #[p] w fun e w' => e = .returned (.tuple #[.int .i64 0, .iface 77 (.int .i64 4)]) ∧ Below w.heap.size w w' := by
  obtain ⟨g, v, rfl, rfl, h1, h2, _⟩ := h
  obtain ⟨a, cap, rfl, _, _⟩ := h2.row
  obtain ⟨r0, r1, r2⟩ := tri_cells h1
  clear h1 h2
  by_cases h8 : 8 ≤ xs.length
  · have hz : (8 : Int) ≤ xs.length := by omega
    clear h8 hf
    go_enter Tryd.func31, Tryd.ntmps31
    go_wp2
    go_ret2
    exact ⟨rfl, Below.refl _ _⟩
  · have hz : ¬ (8 : Int) ≤ xs.length := by omega
    have h30 : 30 ≤ many := by omega
    clear h8 hf
    go_enter Tryd.func31, Tryd.ntmps31
    go_wp2
    go_ret2
    exact ⟨rfl, Below.refl _ _⟩

theorem tri_set2 {w : World} {b : Nat} {a0 a1 a2 x y : Value} {t : TypeId} {fr : Nat × Nat} (hg : w.heap[b]? = some (.cells #[a0, a1, a2] t fr)) :
    (w.setCell ⟨b, 0, none⟩ x).setCell ⟨b, 1, none⟩ y = w.setRow b #[x, y, a2] := by
  rw [setCell_eq_setRow w b 0 _ _ _ x hg]
  have h1 := setRow_heap w b _ (#[a0, a1, a2].setIfInBounds 0 x) t fr hg
  rw [setCell_eq_setRow _ b 1 _ _ _ y h1, setRow_setRow]
  rfl
theorem tri_last {w : World} {b : Nat} {a0 a1 a2 z : Value} {t : TypeId} {fr : Nat × Nat} (hg : w.heap[b]? = some (.cells #[a0, a1, a2] t fr)) : w.setCell ⟨b, 2, none⟩ z = w.setRow b #[a0, a1, z] := by
  rw [setCell_eq_setRow w b 2 _ _ _ z hg]
  rfl

set_option maxHeartbeats 4000000 in
theorem issue_ok (p : Value) (S : Nat → Prop) (last many : Int) (xs : List Int) (w : World) (B : Nat) (h : Non w B p S last many xs) (h8 : xs.length < 8) (h30 : many < 30) (hB : B ≤ w.heap.size) :
    Calls Tryd.prog 31 #[p] w fun e w' => ∃ S', e = .returned (.tuple #[.int .i64 (stp 7919 last many), .nilIface]) ∧ Non w' B p S' (stp 7919 last many) (many + 1) (xs ++ [stp 7919 last many]) ∧ Only S w w' ∧ (∀ k, S' k → S k ∨ w.heap.size ≤ k) := by
  obtain ⟨g, v, rfl, rfl, h1, h2, h3, h4, h5, h6, h7⟩ := h
  obtain ⟨a, cap, hv, hc, hr⟩ := h2.row
  have HG := hide h1
  have HO := hide h2
  have HV := hide hv
  have HNE := hide h3
  obtain ⟨r0, r1, r2⟩ := tri_cells h1
  obtain ⟨f0, f1, f2⟩ := tri_free h1
  have TW := hide (fun W => two_ok last many W h5 (isM_iff.2 ⟨h6, by omega⟩))
  have hz : ¬ (8 : Int) ≤ xs.length := by omega
  have hz2 : ¬ 30 ≤ many := by omega
  have HX := hide (show isM (stp 7919 last many) = true from isM_iff.2 ⟨stp_ge _ _ _, stp_lt _ _ _⟩)
  rw [hv] at r2
  clear h1 h2 h3 h5 hr hc hv
  generalize stp 7919 last many = nx at *
  go_enter Tryd.func31, Tryd.ntmps31
  go_wp2_with (fail)
  go_quiet ((go_at_call 64; exact Calls.quiet_of_same (TW.out _)))
  have HQ : Hid (Only (foot g v) w (w.drewN nq)) := Only.of_below (quiet_below nq)
  have HG1 : Hid ((w.drewN nq).heap[g]? = some (.cells #[.int .i64 last, .int .i64 many, v] 117)) := HG.out
  have HO1 : Hid (Own (w.drewN nq) B 3 v xs) := HO.out.only (S := fun _ => False) (Only.of_below (quiet_below nq)) (fun _ _ hf => hf)
  have hBq : B ≤ (w.drewN nq).heap.size := hB
  have HSZ : Hid ((w.drewN nq).heap.size = w.heap.size) := rfl
  clear r0 r1 r2 f0 f1 f2 HG HO TW
  generalize w.drewN nq = wq at *
  obtain ⟨r0, r1, r2⟩ := tri_cells HG1.out
  obtain ⟨f0, f1, f2⟩ := tri_free HG1.out
  rw [HV.out] at r2
  go_upto_region 8 with (fail)
  rw [tri_set2 HG1.out]
  have HQ2 := hide (HQ.out.setRow (b := g) (Or.inl rfl) #[.int .i64 nx, .int .i64 (many + 1), v])
  have HG2 := hide (setRow_heap wq g _ #[.int .i64 nx, .int .i64 (many + 1), v] _ _ HG1.out)
  have HO2 := hide (HO1.out.only (S := fun k => k = g) ((Only.refl (fun k => k = g) wq).setRow (b := g) rfl #[.int .i64 nx, .int .i64 (many + 1), v]) (fun k hk e => HNE.out (by rw [hk, e])))
  have HS2 : Hid ((wq.setRow g #[.int .i64 nx, .int .i64 (many + 1), v]).heap.size = w.heap.size) := (by simp [World.setRow]; exact HSZ.out)
  clear r0 r1 r2 f0 f1 f2 HG1 HO1 HQ HSZ hBq
  generalize wq.setRow g #[.int .i64 nx, .int .i64 (many + 1), v] = w2 at *
  obtain ⟨r0, r1, r2⟩ := tri_cells HG2.out
  obtain ⟨f0, f1, f2⟩ := tri_free HG2.out
  have hB2 : B ≤ w2.heap.size := by rw [HS2.out]; exact hB
  have hgl : g < w2.heap.size := blk_lt HG2.out
  go_wp2_with (at_builtin; refine wpList_appAt rfl _ _ 48 rfl B 3 Bank.info_int Tryd.underlying48 v xs rfl (HO2.out.alloc _) (some ⟨w2.heap.size, 0, none⟩) 1 1 [nx] rfl rfl (fun h => by cases h) (Row.one _ _ _ (by simp)) (by simp; omega) (by simp; omega) ?_; intro v' w3 ho3 hg3 hat3; obtain ⟨a3, c3, hv3, _, _⟩ := ho3.row; subst hv3; have hG3 := (hg3.block g (by simp; omega) (fun e => HNE.out e.symm)).trans (blk_keep HG2.out (.cells #[.int .i64 nx] 3)); obtain ⟨s0, s1, s2⟩ := tri_cells hG3; obtain ⟨t0, t1, t2⟩ := tri_free hG3)
  rw [tri_last hG3]
  have hS3 : (w2.alloc (.cells #[.int .i64 nx] 3)).heap.size = w.heap.size + 1 := by simp; exact HS2.out
  rw [hS3] at hat3
  have HQ3 := hide (((HQ2.out.alloc (.cells #[.int .i64 nx] 3)).grown hg3 (fun k hk => Or.inl (Or.inr hk))).setRow (b := g) (Or.inl rfl) #[.int .i64 nx, .int .i64 (many + 1), .slice a3 (xs ++ [nx]).length c3])
  have hne3 : (Value.slice a3 (xs ++ [nx]).length c3).ownBlock ≠ some g := by
    intro e
    rcases hat3 with h | h
    · exact HNE.out (h.symm.trans e)
    · rw [h] at e
      cases e
      rw [HS2.out] at hgl
      omega
  have HN3 : Hid (Non (w3.setRow g #[.int .i64 nx, .int .i64 (many + 1), .slice a3 (xs ++ [nx]).length c3]) B (.pointer (some ⟨g, 0, none⟩)) (foot g (.slice a3 (xs ++ [nx]).length c3)) nx (many + 1) (xs ++ [nx])) :=
    ⟨g, _, rfl, rfl, setRow_heap _ _ _ _ _ _ hG3, ho3.only (S := fun k => k = g) ((Only.refl (fun k => k = g) w3).setRow (b := g) rfl _) (fun k hk e => hne3 (by rw [hk, e])), hne3, h4, HX.out, by omega, by omega⟩
  have HF3 : Hid (∀ k, foot g (.slice a3 (xs ++ [nx]).length c3) k → foot g v k ∨ w.heap.size ≤ k) := by
    rintro k (rfl | hk)
    · exact Or.inl (Or.inl rfl)
    · rcases hat3 with h | h
      · exact Or.inl (Or.inr (h.symm.trans hk))
      · rw [h] at hk
        cases hk
        exact Or.inr (by omega)
  have hlen : (xs ++ [nx]).length = xs.length + 1 := by simp
  rw [hlen] at HN3 HQ3 HF3
  go_ret2
  exact ⟨_, rfl, HN3.out, HQ3.out, HF3.out⟩
end Go.Proofs.YtidnjnhmkhekeaaDoor.Nonce
