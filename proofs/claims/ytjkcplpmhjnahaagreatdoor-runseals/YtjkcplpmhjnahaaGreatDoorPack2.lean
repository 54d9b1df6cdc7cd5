/-
  Several texts in one: What is to be proved of package count's object, whatever it is made of: how it lies in memory, and what New, Raise, Least and May do to it. / How package count's object lies in memory: a map behind a pointer, of the names alone that are above 0; what a store into the map makes of it. / What package count's New, Raise, Least and May do to its object over this translation. / Plain mathematics on a session's text: strings.Split's pieces at a byte are the words; a text cut at byte 10 again and again gives its lines. / Contracts of the library's functions as package run calls them: strings.Split at a blank, strings.Cut at byte 10, slices.Contains of the empty text, strings.Join at a blank, strings.Builder's WriteString and String.
-/
import Derived.Test.YtjkcplpmhjnahaaGreatDoorPack1
import Derived.Maps.OwnSet
import Derived.Deep.RegionHeld3
import Derived.Lib.SplitLaws
import Derived.Laws.Strings3
import Derived.Deep.OwnRows
import Derived.Deep.LoopGhost
import Derived.Shelf.Strings.Search2
import Derived.Shelf.Strings.Search3
namespace Go.Proofs.YtjkcplpmhjnahaaGreatDoor.Count
open Go.ChangeShapes Go.WideShapes Go.ChangeAt Go.RowKit
open Go.Proofs.YtjkcplpmhjnahaaGreatDoor.M
set_option linter.unusedVariables false

structure Core (Cnt : World → Nat → Value → (Nat → Prop) → (ByteArray → Int) → Nat → Prop) : Prop where
  has : ∀ {W : World} {B : Nat} {p : Value} {S : Nat → Prop} {f : ByteArray → Int} {k : Nat}, Cnt W B p S f k → ∀ b, S b → B ≤ b ∧ b < W.heap.size
  only : ∀ {W W' : World} {B : Nat} {p : Value} {S T : Nat → Prop} {f : ByteArray → Int} {k : Nat}, Cnt W B p S f k → Only T W W' → (∀ b, S b → ¬ T b) → Cnt W' B p S f k
  new : ∀ (w : World) (B : Nat), B ≤ w.heap.size → Calls Tryz.prog 29 #[] w fun e w' => ∃ p S, e = .returned p ∧ Cnt w' B p S (fun _ => 0) 0 ∧ (∀ b, S b → w.heap.size ≤ b) ∧ Below w.heap.size w w'
theorem Core.below {Cnt : World → Nat → Value → (Nat → Prop) → (ByteArray → Int) → Nat → Prop} (L : Core Cnt) {W W' : World} {B : Nat} {p : Value} {S : Nat → Prop} {f : ByteArray → Int} {k : Nat} (h : Cnt W B p S f k) (hb : Below W.heap.size W W') : Cnt W' B p S f k :=
  L.only h (Only.of_below (S := fun _ => False) hb) (fun _ _ hf => hf)
/-- What Raise does, and what Least tells. -/
def RaiseLaw (Cnt : World → Nat → Value → (Nat → Prop) → (ByteArray → Int) → Nat → Prop) : Prop :=
  ∀ (p : Value) (S : Nat → Prop) (f : ByteArray → Int) (k : Nat) (nm : ByteArray) (v : Int) (w : World) (B : Nat), Cnt w B p S f k → nm.size ≤ 140737488351232 → B ≤ w.heap.size →
    Calls Tryz.prog 62 #[p, .string nm, .int .i64 v] w fun e w' => ∃ S', e = .returned (.tuple #[.bool (raiB f k nm v), errV 98 (raiE f k nm v)]) ∧ Cnt w' B p S' (raiF f k nm v) (raiK f k nm v) ∧ Only S w w' ∧ (∀ b, S' b → S b ∨ w.heap.size ≤ b)
def LeastLaw (Cnt : World → Nat → Value → (Nat → Prop) → (ByteArray → Int) → Nat → Prop) : Prop :=
  ∀ (p : Value) (S : Nat → Prop) (f : ByteArray → Int) (k : Nat) (nm : ByteArray) (w : World) (B : Nat), Cnt w B p S f k → nm.size ≤ 140737488351232 →
    Calls Tryz.prog 90 #[p, .string nm] w fun e w' => e = .returned (.tuple #[.int .i64 (leaV f nm), errV 98 (leaE nm)]) ∧ Below w.heap.size w w'
/-- All of it, where a law asks for both. -/
structure Laws (Cnt : World → Nat → Value → (Nat → Prop) → (ByteArray → Int) → Nat → Prop) : Prop extends Core Cnt where
  raise : RaiseLaw Cnt
  least : LeastLaw Cnt
/-- While nothing of it changes. -/
theorem Laws.below {Cnt : World → Nat → Value → (Nat → Prop) → (ByteArray → Int) → Nat → Prop} (L : Laws Cnt) {W W' : World} {B : Nat} {p : Value} {S : Nat → Prop} {f : ByteArray → Int} {k : Nat} (h : Cnt W B p S f k) (hb : Below W.heap.size W W') : Cnt W' B p S f k := L.toCore.below h hb
/-- And of May, where a law asks it. -/
def MayLaw (Cnt : World → Nat → Value → (Nat → Prop) → (ByteArray → Int) → Nat → Prop) : Prop :=
  ∀ (p : Value) (S : Nat → Prop) (f : ByteArray → Int) (k : Nat) (nm : ByteArray) (v : Int) (w : World) (B : Nat), Cnt w B p S f k → nm.size ≤ 140737488351232 →
    Calls Tryz.prog 63 #[p, .string nm, .int .i64 v] w fun e w' => e = .returned (errV 98 (mayE f nm v)) ∧ Below w.heap.size w w'
end Go.Proofs.YtjkcplpmhjnahaaGreatDoor.Count
namespace Go.Proofs.YtjkcplpmhjnahaaGreatDoor.Count
open Go.ChangeShapes Go.WideShapes Go.ChangeAt Go.RowKit Go.WideMaps
open Go.Proofs.YtjkcplpmhjnahaaGreatDoor.M
set_option linter.unusedVariables false

/-- A map's block that reads as D. -/
def MapIs (W : World) (m : Nat) (D : DataW Unit) : Prop := W.ownsMap Tryz.prog 9 (plainElem Tryz.prog 3) m (Maps.size D) D
theorem mapIs_of {W : World} {m n : Nat} {D : DataW Unit} (h : W.ownsMap Tryz.prog 9 (plainElem Tryz.prog 3) m n D) : MapIs W m D := by
  obtain ⟨es, clock, hb, F, hs, hD⟩ := h
  refine ⟨es, clock, hb, F, ?_, hD⟩
  rw [hD]
  simp [Maps.size, length_sorted]
theorem MapIs.heap {W W' : World} {m : Nat} {D : DataW Unit} (h : MapIs W m D) (e : W'.heap[m]? = W.heap[m]?) : MapIs W' m D := by
  obtain ⟨es, clock, hb, r⟩ := h
  exact ⟨es, clock, e.trans hb, r⟩
theorem MapIs.lt {W : World} {m : Nat} {D : DataW Unit} (h : MapIs W m D) : m < W.heap.size := World.ownsMap.lt h
theorem zero_int (w : World) : (zeroValue 3).run Tryz.prog w = .ok (.int .i64 0) w := by kernel_rfl
theorem string_law : Maps.Keyed Tryz.prog 9 := Maps.string_keyed Tryz.underlying9
/-- What D says of each text: its least version, and that it is there just where that is not 0. -/
def Says (D : DataW Unit) (f : ByteArray → Int) : Prop :=
  ∀ s : ByteArray, s.size ≤ maxLen → D.atKey (.string s.data.toList) (.lit (.int .i64 0)) = .lit (.int .i64 (f s)) ∧ Maps.has D (.string s.data.toList) = decide (¬ f s = 0)
theorem bytes_ext {s t : ByteArray} (h : s.data.toList = t.data.toList) : s = t := by
  cases s
  cases t
  simpa [ByteArray.mk.injEq, Array.toList_inj] using h
theorem key_ne {s t : ByteArray} (h : ¬ s = t) : (Lit.string s.data.toList) ≠ Lit.string t.data.toList := by
  intro e
  injection e with e
  exact h (bytes_ext e)
theorem says_put {D : DataW Unit} {f : ByteArray → Int} {nm : ByteArray} {v : Int} (hD : Maps.IsMap D) (h : Says D f) (hv : ¬ v = 0) : Says (D.put (.string nm.data.toList) (.lit (.int .i64 v))) (updF f nm v) := by
  intro s hs
  by_cases e : s = nm
  · subst e
    rw [Maps.atKey_put_same hD (k := .string s.data.toList) trivial, Maps.has_put_same hD (k := .string s.data.toList) trivial, updF_same]
    exact ⟨rfl, (decide_eq_true hv).symm⟩
  · rw [Maps.atKey_put_other (key_ne e), Maps.has_put_other (key_ne e)]
    have e2 : updF f nm v s = f s := if_neg e
    rw [e2]
    exact h s hs
theorem wf_int {v : Int} (h0 : 0 ≤ v) (h1 : v ≤ 1000) : (Lit.int .i64 v).wf = true := by
  simp [Lit.wf, IntKind.min, IntKind.max, IntKind.bits, IntKind.signed]
  omega

/-- Counts in memory: the block g has the map, which lies in the block m. -/
def CIs (W : World) (B g m : Nat) (f : ByteArray → Int) (k : Nat) : Prop :=
  W.heap[g]? = some (.cells #[.map (some m)] 89) ∧ B ≤ g ∧ B ≤ m ∧ k ≤ 12 ∧ (∀ s, 0 ≤ f s) ∧ m ≠ g ∧ ∃ D, MapIs W m D ∧ Maps.size D = k ∧ Says D f
def foot (g m : Nat) (b : Nat) : Prop := b = g ∨ b = m
def Cnt (W : World) (B : Nat) (p : Value) (S : Nat → Prop) (f : ByteArray → Int) (k : Nat) : Prop :=
  ∃ g m, p = .pointer (some ⟨g, 0, none⟩) ∧ S = foot g m ∧ CIs W B g m f k
theorem CIs.keep {W W' : World} {B g m : Nat} {f : ByteArray → Int} {k : Nat} (h : CIs W B g m f k) (hg : W'.heap[g]? = W.heap[g]?) (hm : W'.heap[m]? = W.heap[m]?) : CIs W' B g m f k := by
  obtain ⟨h1, h2, h3, h4, h5, h6, D, h7, h8⟩ := h
  exact ⟨hg.trans h1, h2, h3, h4, h5, h6, D, h7.heap hm, h8⟩
theorem CIs.lt {W : World} {B g m : Nat} {f : ByteArray → Int} {k : Nat} (h : CIs W B g m f k) : g < W.heap.size ∧ m < W.heap.size := by
  obtain ⟨h1, h2, h3, h4, h5, h6, D, h7, h8⟩ := h
  exact ⟨blk_lt h1, h7.lt⟩
theorem CIs.below {W W' : World} {B g m : Nat} {f : ByteArray → Int} {k : Nat} (h : CIs W B g m f k) (hb : Below W.heap.size W W') : CIs W' B g m f k := h.keep (hb.block g h.lt.1) (hb.block m h.lt.2)
theorem CIs.cell {W : World} {B g m : Nat} {f : ByteArray → Int} {k : Nat} (h : CIs W B g m f k) : W.cell? ⟨g, 0, none⟩ = some (.map (some m)) := by
  rw [cell_of_row W g _ _ _ _ h.1]
  rfl
set_option maxRecDepth 20000 in
theorem CIs.look {W : World} {B g m : Nat} {f : ByteArray → Int} {k : Nat} (h : CIs W B g m f k) {nm : ByteArray} (hn : nm.size ≤ maxLen) :
    (Instr.lookup 87 (.map (some m)) (.string nm) false).run Tryz.prog W = .ok (.int .i64 (f nm)) W := by
  obtain ⟨_, _, _, _, _, _, D, h7, _, h9⟩ := h
  obtain ⟨c, hrun, hat, _⟩ := World.ownsMap.lookup_int h7 string_law Tryz.underlying87 Tryz.underlying3 (q := .i64) (zero_int _) (keyOf_string_mk Tryz.underlying9 hn)
  rw [(h9 nm hn).1] at hat
  injection hat with hat
  injection hat with _ hat
  rw [hrun, hat]
theorem CIs.len {W : World} {B g m : Nat} {f : ByteArray → Int} {k : Nat} (h : CIs W B g m f k) (ty : TypeId) :
    (Builtin.len_ #[87] ty #[.map (some m)]).run Tryz.prog W = .ok (.int .i64 k) W := by
  obtain ⟨_, _, _, _, _, _, D, h7, h8, _⟩ := h
  rw [← h8]
  exact World.ownsMap.len h7 Tryz.underlying87 ty

def resW : Result Unit → World
  | .ok _ W => W
  | .halt _ W => W
/-- What a store into the map does, as a function of the world. -/
theorem puts (B g m : Nat) (nm : ByteArray) (v : Int) (hn : nm.size ≤ maxLen) (h0 : 1 ≤ v) (h1 : v ≤ 1000) : ∃ put : World → World, ∀ (W : World) (f : ByteArray → Int) (k : Nat), CIs W B g m f k →
    (Instr.mapUpdate 87 (.map (some m)) (.string nm) (.int .i64 v)).run Tryz.prog W = .ok () (put W) ∧ Only (foot g m) W (put W) ∧
      (¬ (f nm = 0 ∧ 12 ≤ k) → CIs (put W) B g m (updF f nm v) (if f nm = 0 then k + 1 else k)) := by
  refine ⟨fun W => resW ((Instr.mapUpdate 87 (.map (some m)) (.string nm) (.int .i64 v)).run Tryz.prog W), fun W f k h => ?_⟩
  obtain ⟨h1', h2, h3, h4, h5, h6, D, h7, h8, h9⟩ := h
  have ht := World.ownsMap.tidy h7 string_law
  obtain ⟨W', hrun, hown, hgr⟩ := World.ownsMap.update h7 string_law Tryz.underlying87 (by unfold maxLen; omega) (keyOf_string_mk Tryz.underlying9 hn) (plainElem_int Tryz.underlying3 (wf_int (by omega) h1))
  have e : resW ((Instr.mapUpdate 87 (.map (some m)) (.string nm) (.int .i64 v)).run Tryz.prog W) = W' := by rw [hrun]; rfl
  simp only [e]
  have hO : Only (foot g m) W W' := (Only.refl _ W).grown hgr (fun b hb => Or.inl (Or.inr (Option.some.inj hb).symm))
  refine ⟨hrun, hO, fun hk => ⟨(hgr.block g (blk_lt h1') (fun e => h6 (Option.some.inj e).symm)).trans h1', h2, h3, ?_, ?_, h6, _, mapIs_of hown, ?_, says_put ht.isMap h9 (by omega)⟩⟩
  · split <;> omega
  · intro s
    unfold updF
    split
    · omega
    · exact h5 s
  · rw [Maps.size_put ht, (h9 nm hn).2, h8]
    by_cases hz : f nm = 0 <;> simp [hz]
theorem Cnt.has {W : World} {B : Nat} {p : Value} {S : Nat → Prop} {f : ByteArray → Int} {k : Nat} (h : Cnt W B p S f k) : ∀ b, S b → B ≤ b ∧ b < W.heap.size := by
  obtain ⟨g, m, _, rfl, h⟩ := h
  rintro b (rfl | rfl)
  · exact ⟨h.2.1, h.lt.1⟩
  · exact ⟨h.2.2.1, h.lt.2⟩
theorem Cnt.only {W W' : World} {B : Nat} {p : Value} {S T : Nat → Prop} {f : ByteArray → Int} {k : Nat} (h : Cnt W B p S f k) (ho : Only T W W') (hn : ∀ b, S b → ¬ T b) : Cnt W' B p S f k := by
  obtain ⟨g, m, hp, rfl, h⟩ := h
  exact ⟨g, m, hp, rfl, h.keep (ho.2.2.2.2 g h.lt.1 (hn g (Or.inl rfl))) (ho.2.2.2.2 m h.lt.2 (hn m (Or.inr rfl)))⟩
theorem cis_new (w : World) (B : Nat) (hB : B ≤ w.heap.size) : CIs ((w.alloc (.map #[] 0)).alloc (.cells #[.map (some w.heap.size)] 89)) B (w.heap.size + 1) w.heap.size (fun _ => 0) 0 := by
  have hs : (w.alloc (.map #[] 0)).heap.size = w.heap.size + 1 := by simp
  have h0 : (w.alloc (.map #[] 0)).ownsMap Tryz.prog 9 (plainElem Tryz.prog 3) w.heap.size 0 (.map [] : DataW Unit) := World.ownsMap_made w _ _ _
  refine ⟨by rw [← hs]; exact blk_new _ _, by omega, hB, by omega, fun _ => Int.le_refl _, by omega, .map [], mapIs_of (h0.alloc _), rfl, fun s _ => ⟨rfl, rfl⟩⟩
end Go.Proofs.YtjkcplpmhjnahaaGreatDoor.Count
namespace Go.Proofs.YtjkcplpmhjnahaaGreatDoor.Count
open Go.ChangeShapes Go.WideShapes Go.ChangeAt Go.RowKit
open Go.Proofs.YtjkcplpmhjnahaaGreatDoor.M Go.Proofs.YtjkcplpmhjnahaaGreatDoor.Image
set_option linter.unusedVariables false

theorem nameB_no0 {s : ByteArray} (h : s.size = 0) : nameB s = false := by
  unfold nameB
  rw [decide_eq_false (by omega), Bool.and_false]
theorem nameB_no8 {s : ByteArray} (h : 8 < s.size) : nameB s = false := by
  unfold nameB
  rw [decide_eq_false (by omega), Bool.and_false]
theorem nameB_let {s : ByteArray} (h0 : ¬ s.size = 0) (h : ¬ 8 < s.size) : nameB s = letS s := by
  unfold nameB
  rw [decide_eq_true (by omega), Bool.and_true]
set_option maxHeartbeats 2000000 in
theorem name_any (s : ByteArray) (w : World) (hl : s.size ≤ 140737488351232) : Calls Tryz.prog 113 #[.string s] w fun e w' => e = .returned (.bool (nameB s)) ∧ Below w.heap.size w w' := by
  by_cases h0 : s.size = 0
  · have E := hide (nameB_no0 h0)
    have h1 := empty_is h0
    clear h0
    go_enter Tryz.func113, Tryz.ntmps113
    go_wp2
    go_ret
    exact ⟨by rw [E.out]; rfl, Below.refl _ _⟩
  · have h1 := empty_not h0
    by_cases h8 : 8 < s.size
    · have E := hide (nameB_no8 h8)
      have h8' : ¬ (s.size : Int) ≤ 8 := by omega
      clear h0 h8
      go_enter Tryz.func113, Tryz.ntmps113
      go_wp2
      go_ret
      exact ⟨by rw [E.out]; rfl, Below.refl _ _⟩
    · have E := hide (nameB_let h0 h8)
      have h8' : (s.size : Int) ≤ 8 := by omega
      clear h0 h8
      go_enter Tryz.func113, Tryz.ntmps113
      go_wp2_with (go_at_call 122; refine (letters_any s _).mono ?_; rintro e w1 ⟨rfl, hb1⟩)
      go_ret
      exact ⟨by rw [E.out]; rfl, hb1⟩

set_option maxHeartbeats 2000000 in
theorem new_any (w : World) (B : Nat) (hB : B ≤ w.heap.size) : Calls Tryz.prog 29 #[] w fun e w' => ∃ p S, e = .returned p ∧ Cnt w' B p S (fun _ => 0) 0 ∧ (∀ b, S b → w.heap.size ≤ b) ∧ Below w.heap.size w w' := by
  have HN := hide (cis_new w B hB)
  have HB := hide (below_on (below_new w (.map #[] 0)) (below_new _ (.cells #[.map (some w.heap.size)] 89)))
  have mk := run_makeMap (P := Tryz.prog) 87 w
  clear hB
  go_enter Tryz.func29, Tryz.ntmps29
  go_wp2
  go_ret
  exact ⟨_, foot (w.heap.size + 1) w.heap.size, rfl, ⟨w.heap.size + 1, w.heap.size, rfl, rfl, HN.out⟩, fun b hb => by rcases hb with rfl | rfl <;> omega, HB.out⟩
theorem core : Core Cnt := ⟨fun h => h.has, fun h => h.only, new_any⟩

set_option maxHeartbeats 2000000 in
theorem leastLaw : LeastLaw Cnt := by
  rintro p S f k nm w B ⟨g, m, rfl, rfl, h⟩ hl
  have HC := hide h
  clear h
  cases hn : nameB nm with
  | false =>
    obtain ⟨e1, e2⟩ := leaE_no (f := f) hn
    rw [e1, e2]
    clear e1 e2
    have HN := hide hn
    clear hn
    go_enter Tryz.func90, Tryz.ntmps90
    go_wp2_with (go_at_call 113; refine (name_any nm _ (by omega)).mono ?_; rintro e w1 ⟨rfl, hb1⟩; rw [HN.out])
    go_ret2
    exact ⟨rfl, hb1⟩
  | true =>
    obtain ⟨e1, e2⟩ := leaE_ok (f := f) hn
    rw [e1, e2]
    clear e1 e2
    have HN := hide hn
    clear hn
    go_enter Tryz.func90, Tryz.ntmps90
    go_wp2_with (go_at_call 113; refine (name_any nm _ (by omega)).mono ?_; rintro e w1 ⟨rfl, hb1⟩; rw [HN.out]; have c1 := (HC.out.below hb1).cell; have l1 := (HC.out.below hb1).look (nm := nm) (by unfold maxLen; omega))
    go_ret2
    exact ⟨rfl, hb1⟩

set_option maxHeartbeats 2000000 in
theorem mayLaw : MayLaw Cnt := by
  intro p S f k nm v w B h hl
  have HL := hide (leastLaw p S f k nm w B h hl)
  clear h
  cases hn : nameB nm with
  | false =>
    have E : Hid (mayE f nm v = 3) := by unfold mayE; rw [hn]; rfl
    obtain ⟨e1, e2⟩ := leaE_no (f := f) hn
    rw [e1, e2] at HL
    clear e1 e2 hn
    go_enter Tryz.func63, Tryz.ntmps63
    go_wp2_with (go_at_call 90; refine HL.out.mono ?_; rintro e w1 ⟨rfl, hb1⟩; rw [show errV 98 3 = .iface 98 (.int .i64 3) from rfl])
    go_ret
    exact ⟨by rw [E.out]; rfl, hb1⟩
  | true =>
    obtain ⟨e1, e2⟩ := leaE_ok (f := f) hn
    rw [e1, e2] at HL
    clear e1 e2
    cases hv : verB v with
    | false =>
      have E : Hid (mayE f nm v = 1) := by
        have := verB_no hv
        unfold mayE
        rw [if_pos hn, if_neg (by omega)]
        exact rfl
      have HV := hide hv
      clear hn hv
      generalize f nm = z at *
      go_enter Tryz.func63, Tryz.ntmps63
      go_wp2_with (first | (go_at_call 90; refine HL.out.mono ?_; rintro e w1 ⟨rfl, hb1⟩; rw [errV_zero]) | (go_at_call 91; refine (version_any v _).mono ?_; rintro e w2 ⟨rfl, rfl⟩; rw [HV.out]))
      go_ret
      exact ⟨by rw [E.out]; rfl, hb1⟩
    | true =>
      have HV := hide hv
      have h1 := verB_yes hv
      by_cases hz : v < f nm
      · have E : Hid (mayE f nm v = 9) := by
          unfold mayE
          rw [if_pos hn, if_pos h1, if_pos hz]
          exact rfl
        clear hn hv h1
        generalize f nm = z at *
        go_enter Tryz.func63, Tryz.ntmps63
        go_wp2_with (first | (go_at_call 90; refine HL.out.mono ?_; rintro e w1 ⟨rfl, hb1⟩; rw [errV_zero]) | (go_at_call 91; refine (version_any v _).mono ?_; rintro e w2 ⟨rfl, rfl⟩; rw [HV.out]))
        go_ret
        exact ⟨by rw [E.out]; rfl, hb1⟩
      · have E : Hid (mayE f nm v = 0) := by
          unfold mayE
          rw [if_pos hn, if_pos h1, if_neg hz]
          exact rfl
        clear hn hv h1
        generalize f nm = z at *
        go_enter Tryz.func63, Tryz.ntmps63
        go_wp2_with (first | (go_at_call 90; refine HL.out.mono ?_; rintro e w1 ⟨rfl, hb1⟩; rw [errV_zero]) | (go_at_call 91; refine (version_any v _).mono ?_; rintro e w2 ⟨rfl, rfl⟩; rw [HV.out]))
        go_ret
        exact ⟨by rw [E.out]; rfl, hb1⟩

/-- While the region of the store goes on: but for the object all is as it was, and the object is as it was. -/
def Ex (w : World) (B g m : Nat) (f : ByteArray → Int) (k : Nat) (W : World) : Prop := Only (foot g m) w W ∧ CIs W B g m f k
def Wk (B g m : Nat) (nm : ByteArray) (W : World) : Prop := ∃ f k, CIs W B g m f k ∧ ¬ (f nm = 0 ∧ 12 ≤ k)
theorem ex_drew {w W : World} {B g m : Nat} {f : ByteArray → Int} {k : Nat} (h : Ex w B g m f k W) : Ex w B g m f k W.drew := ⟨h.1, h.2⟩
theorem wk_drew {W : World} {B g m : Nat} {nm : ByteArray} (h : Wk B g m nm W) : Wk B g m nm W.drew := h
theorem ex_below {w W W' : World} {B g m : Nat} {f : ByteArray → Int} {k : Nat} (h : Ex w B g m f k W) (hb : Below W.heap.size W W') : Ex w B g m f k W' := ⟨h.1.after hb, h.2.below hb⟩
theorem raise_false {f : ByteArray → Int} {k : Nat} {nm : ByteArray} {v : Int} (h : raiB f k nm v = false) : raiF f k nm v = f ∧ raiK f k nm v = k :=
  ⟨raiF_no (by rw [h]; exact Bool.false_ne_true), raiK_no (by rw [h]; exact Bool.false_ne_true)⟩
/-- Where nothing changes. -/
theorem raise_same {p : Value} {S : Nat → Prop} {f : ByteArray → Int} {k : Nat} {nm : ByteArray} {v : Int} {w w' : World} {B : Nat} (h : Cnt w B p S f k) (hb : Below w.heap.size w w') (hr : raiB f k nm v = false) :
    Cnt w' B p S (raiF f k nm v) (raiK f k nm v) ∧ Only S w w' := by
  rw [(raise_false hr).1, (raise_false hr).2]
  exact ⟨core.below h hb, Only.of_below hb⟩
theorem would_end {f : ByteArray → Int} {k : Nat} {nm : ByteArray} {v : Int} {w w' : World} {e : Ending} {b : Bool} {err : Int} (hb : Below w.heap.size w w') (hr : raiB f k nm v = b) (he : raiE f k nm v = err) (hx : e = .returned (.tuple #[.bool b, errV 98 err])) :
    e = .returned (.tuple #[.bool (raiB f k nm v), errV 98 (raiE f k nm v)]) ∧ Below w.heap.size w w' := ⟨by rw [hx, hr, he], hb⟩
theorem raise_done {w W : World} {B g m : Nat} {f : ByteArray → Int} {k : Nat} {nm : ByteArray} {v : Int} {put : World → World} {e : Ending} (hw : Ex w B g m f k W) (hr : raiB f k nm v = true) (hx : e = .returned (.tuple #[.bool true, .nilIface]))
    (hp : Only (foot g m) W (put W) ∧ CIs (put W) B g m (updF f nm v) (if f nm = 0 then k + 1 else k)) :
    e = .returned (.tuple #[.bool true, .nilIface]) ∧ Cnt (put W) B (.pointer (some ⟨g, 0, none⟩)) (foot g m) (raiF f k nm v) (raiK f k nm v) ∧ Only (foot g m) w (put W) := by
  refine ⟨hx, ?_, hw.1.trans hp.1 (fun b _ hb => hb)⟩
  rw [raiF_yes hr, show raiK f k nm v = (if f nm = 0 then k + 1 else k) from if_pos hr]
  exact ⟨g, m, rfl, rfl, hp.2⟩
set_option maxHeartbeats 4000000 in
/-- What Would tells. -/
theorem would_any (p : Value) (S : Nat → Prop) (f : ByteArray → Int) (k : Nat) (nm : ByteArray) (v : Int) (w : World) (B : Nat) (h : Cnt w B p S f k) (hl : nm.size ≤ 140737488351232) :
    Calls Tryz.prog 88 #[p, .string nm, .int .i64 v] w fun e w' => e = .returned (.tuple #[.bool (raiB f k nm v), errV 98 (raiE f k nm v)]) ∧ Below w.heap.size w w' := by
  have HL := hide (leastLaw p S f k nm w B h hl)
  have HC := hide h
  cases hn : nameB nm with
  | false =>
    have R := hide (raiE_name (f := f) (k := k) (v := v) hn)
    obtain ⟨e1, e2⟩ := leaE_no (f := f) hn
    rw [e1, e2] at HL
    clear e1 e2 hn h
    go_enter Tryz.func88, Tryz.ntmps88
    go_wp2_with (go_at_call 90; refine HL.out.mono ?_; rintro e w1 ⟨rfl, hb1⟩; rw [show errV 98 3 = .iface 98 (.int .i64 3) from rfl])
    go_ret2
    exact would_end hb1 R.out.2 R.out.1 rfl
  | true =>
    obtain ⟨e1, e2⟩ := leaE_ok (f := f) hn
    rw [e1, e2] at HL
    clear e1 e2
    have hf0 : 0 ≤ f nm := by
      obtain ⟨g, m, _, _, hc⟩ := h
      exact hc.2.2.2.2.1 nm
    by_cases hv0 : v = 0
    · subst hv0
      have RB : Hid (raiB f k nm 0 = false) := by
        cases hb : raiB f k nm 0 with
        | false => exact rfl
        | true => exact absurd (raiB_iff.1 hb).2.2.1 (by omega)
      have RE : Hid (raiE f k nm 0 = 0) := by
        unfold raiE
        rw [if_pos hn, if_pos (by omega), if_pos hf0]
        exact rfl
      clear hn h
      generalize f nm = z at HL hf0
      go_enter Tryz.func88, Tryz.ntmps88
      go_wp2_with (go_at_call 90; refine HL.out.mono ?_; rintro e w1 ⟨rfl, hb1⟩; rw [errV_zero])
      go_ret2
      exact would_end hb1 RB.out RE.out rfl
    · cases hv : verB v with
      | false =>
        have h1 := verB_no hv
        have RB : Hid (raiB f k nm v = false) := by
          cases hb : raiB f k nm v with
          | false => exact rfl
          | true => exact absurd (raiB_iff.1 hb).2.1 (by omega)
        have RE : Hid (raiE f k nm v = 1) := by
          unfold raiE
          rw [if_pos hn, if_neg (by omega)]
          exact rfl
        have HV := hide hv
        clear hn h hv h1 hf0
        generalize f nm = z at HL
        go_enter Tryz.func88, Tryz.ntmps88
        go_wp2_with (first | (go_at_call 90; refine HL.out.mono ?_; rintro e w1 ⟨rfl, hb1⟩; rw [errV_zero]) | (go_at_call 91; refine (version_any v _).mono ?_; rintro e w2 ⟨rfl, rfl⟩; rw [HV.out]))
        go_ret2
        exact would_end hb1 RB.out RE.out rfl
      | true =>
        obtain ⟨h1, h2⟩ := verB_yes hv
        have HV := hide hv
        clear hv
        by_cases hle : v ≤ f nm
        · have RB : Hid (raiB f k nm v = false) := by
            cases hb : raiB f k nm v with
            | false => exact rfl
            | true => exact absurd (raiB_iff.1 hb).2.2.1 (by omega)
          have RE : Hid (raiE f k nm v = 0) := by
            unfold raiE
            rw [if_pos hn, if_pos (by omega), if_pos hle]
            exact rfl
          clear hn h h1 h2 hf0
          generalize f nm = z at HL hle
          go_enter Tryz.func88, Tryz.ntmps88
          go_wp2_with (first | (go_at_call 90; refine HL.out.mono ?_; rintro e w1 ⟨rfl, hb1⟩; rw [errV_zero]) | (go_at_call 91; refine (version_any v _).mono ?_; rintro e w2 ⟨rfl, rfl⟩; rw [HV.out]))
          go_ret2
          exact would_end hb1 RB.out RE.out rfl
        · by_cases hfull : f nm = 0 ∧ 12 ≤ k
          · have RB : Hid (raiB f k nm v = false) := by
              cases hb : raiB f k nm v with
              | false => exact rfl
              | true => exact absurd hfull (raiB_iff.1 hb).2.2.2
            have RE : Hid (raiE f k nm v = 4) := by
              unfold raiE
              rw [if_pos hn, if_pos (by omega), if_neg hle, if_pos hfull]
              exact rfl
            obtain ⟨hz, hk⟩ := hfull
            have hk' : (12 : Int) ≤ k := by omega
            rw [hz] at HL hle
            obtain ⟨g, m, rfl, rfl, hc⟩ := h
            have HI := hide hc
            clear hn h1 h2 hf0 hz hk hc
            go_enter Tryz.func88, Tryz.ntmps88
            go_wp2_with (first | (go_at_call 90; refine HL.out.mono ?_; rintro e w1 ⟨rfl, hb1⟩; rw [errV_zero]; have c1 := (HI.out.below hb1).cell; have l1 := (HI.out.below hb1).len) | (go_at_call 91; refine (version_any v _).mono ?_; rintro e w2 ⟨rfl, rfl⟩; rw [HV.out]))
            go_ret2
            exact would_end hb1 RB.out RE.out rfl
          · have RB : Hid (raiB f k nm v = true) := raiB_iff.2 ⟨hn, ⟨by omega, h2⟩, by omega, hfull⟩
            have RE := hide (raiE_rise RB.out)
            obtain ⟨g, m, rfl, rfl, hc⟩ := h
            have HI := hide hc
            have hf0' := hf0
            clear hn hc
            by_cases hz : f nm = 0
            · have hk' : ¬ (12 : Int) ≤ k := by
                intro hk
                exact hfull ⟨hz, by omega⟩
              rw [hz] at HL hle
              clear hz hfull h1 h2 hf0 hf0'
              go_enter Tryz.func88, Tryz.ntmps88
              go_wp2_with (first | (go_at_call 90; refine HL.out.mono ?_; rintro e w1 ⟨rfl, hb1⟩; rw [errV_zero]; have c1 := (HI.out.below hb1).cell; have l1 := (HI.out.below hb1).len) | (go_at_call 91; refine (version_any v _).mono ?_; rintro e w2 ⟨rfl, rfl⟩; rw [HV.out]))
              go_ret2
              exact would_end hb1 RB.out RE.out rfl
            · generalize hq : f nm = z at HL hle hz
              clear hq hfull h1 h2 hf0 hf0'
              go_enter Tryz.func88, Tryz.ntmps88
              go_wp2_with (first | (go_at_call 90; refine HL.out.mono ?_; rintro e w1 ⟨rfl, hb1⟩; rw [errV_zero]; have c1 := (HI.out.below hb1).cell; have l1 := (HI.out.below hb1).len) | (go_at_call 91; refine (version_any v _).mono ?_; rintro e w2 ⟨rfl, rfl⟩; rw [HV.out]))
              go_ret2
              exact would_end hb1 RB.out RE.out rfl
set_option maxHeartbeats 4000000 in
/-- What Raise does: its blocks stay the same. -/
theorem raiseStay (p : Value) (S : Nat → Prop) (f : ByteArray → Int) (k : Nat) (nm : ByteArray) (v : Int) (w : World) (B : Nat) (h : Cnt w B p S f k) (hl : nm.size ≤ 140737488351232) :
    Calls Tryz.prog 62 #[p, .string nm, .int .i64 v] w fun e w' => e = .returned (.tuple #[.bool (raiB f k nm v), errV 98 (raiE f k nm v)]) ∧ Cnt w' B p S (raiF f k nm v) (raiK f k nm v) ∧ Only S w w' := by
  have HL := hide (would_any p S f k nm v w B h hl)
  have HC := hide h
  cases hr : raiB f k nm v with
  | false =>
    have HR := hide hr
    rw [hr] at HL
    clear hr h
    obtain ⟨ev, hev⟩ : ∃ ev, errV 98 (raiE f k nm v) = ev := ⟨_, rfl⟩
    have HEV := hide hev
    rw [hev] at HL
    rw [hev]
    clear hev
    go_enter Tryz.func62, Tryz.ntmps62
    go_wp2_with (go_at_call 88; refine HL.out.mono ?_; rintro e w1 ⟨rfl, hb1⟩)
    go_ret2
    obtain ⟨h1, h2⟩ := raise_same HC.out hb1 HR.out
    exact ⟨rfl, h1, h2⟩
  | true =>
    obtain ⟨hn, ⟨hv0, h2⟩, hlt, hfull⟩ := raiB_iff.1 hr
    have RB := hide hr
    rw [hr, raiE_rise hr, errV_zero] at HL
    rw [raiE_rise hr, errV_zero]
    obtain ⟨g, m, rfl, rfl, hc⟩ := h
    have h1 : 1 ≤ v := by
      have := hc.2.2.2.2.1 nm
      omega
    have CL := hide (fun W => clone_any nm W hl)
    obtain ⟨put, hput⟩ := puts B g m nm v (by unfold maxLen; omega) h1 h2
    have HX : Hid (∀ W, Ex w B g m f k W → Only (foot g m) W (put W) ∧ CIs (put W) B g m (updF f nm v) (if f nm = 0 then k + 1 else k)) := fun W hW => ⟨(hput W f k hW.2).2.1, (hput W f k hW.2).2.2 hfull⟩
    have HS : Hid (∀ W, Wk B g m nm W → W.cell? ⟨g, 0, none⟩ = some (.map (some m)) ∧ (Instr.mapUpdate 87 (.map (some m)) (.string nm) (.int .i64 v)).run Tryz.prog W = .ok () (put W)) := by
      rintro W ⟨f', k', hW, _⟩
      exact ⟨hW.cell, (hput W f' k' hW).1⟩
    have HP : Hid (∀ W, Wk B g m nm W → Wk B g m nm (put W)) := by
      rintro W ⟨f', k', hW, hk⟩
      exact ⟨_, _, (hput W f' k' hW).2.2 hk, by rw [updF_same]; omega⟩
    have HE : Hid (Ex w B g m f k w) := ⟨Only.refl _ _, hc⟩
    have HF := hide hfull
    clear hput hc h1 h2 hn hfull hr hv0 hlt
    go_enter Tryz.func62, Tryz.ntmps62
    go_wp2_with (go_at_call 88; refine HL.out.mono ?_; rintro e w1 ⟨rfl, hb1⟩)
    have hE1 := ex_below HE.out hb1
    have hW1 : Wk B g m nm _ := ⟨_, _, hE1.2, HF.out⟩
    clear HE hb1
    go_region_held3 (fun W => W.cell? ⟨g, 0, none⟩ = some (.map (some m)) ∧ (Instr.mapUpdate 87 (.map (some m)) (.string nm) (.int .i64 v)).run Tryz.prog W = .ok () (put W))
      (exact HS.out _ (by repeat (first | assumption | with_reducible apply HP.out | with_reducible apply wk_drew)))
      (first | (go_at_call 89; refine (CL.out _).mono ?_; rintro e w5 ⟨rfl, hb5⟩; have hE5 : Ex w B g m f k w5 := ex_below (by repeat (first | assumption | with_reducible apply ex_drew)) hb5; have hW5 : Wk B g m nm w5 := ⟨_, _, hE5.2, HF.out⟩; clear hb5; obtain ⟨c5, r5⟩ := HS.out w5 hW5))
    all_goals
      go_wp2
      go_ret2
      exact raise_done (by repeat (first | assumption | with_reducible apply ex_drew)) RB.out rfl (HX.out _ (by repeat (first | assumption | with_reducible apply ex_drew)))
theorem raiseLaw : RaiseLaw Cnt := by
  intro p S f k nm v w B h hl hB
  refine (raiseStay p S f k nm v w B h hl).mono ?_
  rintro e w' ⟨rfl, h1, h2⟩
  exact ⟨S, rfl, h1, h2, fun b hb => Or.inl hb⟩
/-- All of it. -/
theorem laws : Laws Cnt := { core with raise := raiseLaw, least := leastLaw }
end Go.Proofs.YtjkcplpmhjnahaaGreatDoor.Count
namespace Go.Proofs.YtjkcplpmhjnahaaGreatDoor.M
set_option linter.unusedVariables false

theorem cutG_no (c : UInt8) : ∀ (l acc : List UInt8), c ∉ l → cutG c acc l = [acc ++ l]
  | [], acc, _ => by simp [cutG]
  | b :: l, acc, h => by
    have hb : ¬ b = c := fun e => h (by simp [e])
    rw [cutG, if_neg hb, cutG_no c l _ (fun hm => h (by simp [hm]))]
    simp
theorem cutG_at (c : UInt8) : ∀ (a acc r : List UInt8), c ∉ a → cutG c acc (a ++ c :: r) = (acc ++ a) :: cutG c [] r
  | [], acc, r, _ => by simp [cutG]
  | b :: a, acc, r, h => by
    have hb : ¬ b = c := fun e => h (by simp [e])
    rw [List.cons_append, cutG, if_neg hb, cutG_at c a _ r (fun hm => h (by simp [hm]))]
    simp
theorem cut_fst {s : ByteArray} {a r : List UInt8} {c : UInt8} (h : s.data.toList = a ++ c :: r) : (s.extract 0 a.length).data.toList = a := by
  rw [extract_list, h]
  simp
theorem cut_snd {s : ByteArray} {a r : List UInt8} {c : UInt8} (h : s.data.toList = a ++ c :: r) : (s.extract (a.length + 1) s.size).data.toList = r := by
  have hs : s.size = a.length + 1 + r.length := by
    rw [← len_size, h, List.length_append, List.length_cons]
    omega
  rw [extract_list, h]
  have e : a ++ c :: r = (a ++ [c]) ++ r := by simp
  rw [e, show a.length + 1 = (a ++ [c]).length by simp, List.drop_left, hs]
  rw [List.take_of_length_le (by simp)]
/-- What strings.Split gives at one byte. -/
theorem split_words (c : UInt8) : ∀ (k : Nat) (s : ByteArray), Lib.countB s { data := #[c] } = k → (Lib.splitB { data := #[c] } 0 k s).map (fun x => x.data.toList) = cutG c [] s.data.toList
  | 0, s, h => by
    rcases index_parts s.data.toList c with ⟨h1, h2⟩ | ⟨a, r, h1, h2, h3⟩
    · rw [Lib.splitB_zero, cutG_no c _ _ h2]
      simp
    · have hi : Lib.indexB s { data := #[c] } = (a.length : Nat) := (Lib.index_one _ _).trans h3
      rw [Lib.countB_hit s { data := #[c] } a.length (Nat.le_refl _) hi] at h
      omega
  | k + 1, s, h => by
    rcases index_parts s.data.toList c with ⟨h1, h2⟩ | ⟨a, r, h1, h2, h3⟩
    · have hi : Lib.indexB s { data := #[c] } = -1 := (Lib.index_one _ _).trans h1
      rw [Lib.countB_miss s { data := #[c] } hi] at h
      omega
    · have hi : Lib.indexB s { data := #[c] } = (a.length : Nat) := (Lib.index_one _ _).trans h3
      have hc := Lib.countB_hit s { data := #[c] } a.length (Nat.le_refl _) hi
      have h5 := split_words c k (s.extract (a.length + 1) s.size) (by
        have : ({ data := #[c] } : ByteArray).size = 1 := rfl
        rw [this] at hc
        omega)
      rw [Lib.splitB_hit _ _ _ _ a.length hi, List.map_cons]
      have e1 : ({ data := #[c] } : ByteArray).size = 1 := rfl
      rw [e1, h5, Nat.add_zero, cut_fst h1, cut_snd h1, h1, cutG_at c _ _ _ h2]
      simp
theorem lines_nil : linesL [] = [] := rfl
theorem lines_no {t : List UInt8} (h : t ≠ []) (h2 : (10 : UInt8) ∉ t) : linesL t = [t] := by
  unfold linesL
  rw [cutG_no 10 t [] h2, List.nil_append, if_neg (by simpa using h)]
theorem lines_at {a r : List UInt8} (h2 : (10 : UInt8) ∉ a) : linesL (a ++ 10 :: r) = a :: linesL r := by
  unfold linesL
  rw [cutG_at 10 a [] r h2, List.nil_append]
  have hn := cutG_ne 10 r []
  have e1 : (a :: cutG 10 [] r).getLast? = (cutG 10 [] r).getLast? := by
    cases hc : cutG 10 [] r with
    | nil => exact absurd hc hn
    | cons x y => rw [List.getLast?_cons_cons]
  have e2 : (a :: cutG 10 [] r).dropLast = a :: (cutG 10 [] r).dropLast := by
    cases hc : cutG 10 [] r with
    | nil => exact absurd hc hn
    | cons x y => rfl
  rw [e1, e2]
  split <;> rfl
theorem lines_len (t : List UInt8) : (linesL t).length ≤ t.length + 1 := by
  have := cutG_len 10 t []
  unfold linesL
  split
  · rw [List.length_dropLast]; omega
  · exact this
/-- The numbers of the words behind a name. -/
theorem numP_numG (l : List UInt8) : numP l = numG 7 l := rfl
end Go.Proofs.YtjkcplpmhjnahaaGreatDoor.M
namespace Go.Proofs.YtjkcplpmhjnahaaGreatDoor.Run
open Go.ChangeShapes Go.WideShapes Go.ChangeAt Go.RowKit
open Go.Proofs.YtjkcplpmhjnahaaGreatDoor.M
set_option linter.unusedVariables false

theorem wrap_mid {n : Int} (h0 : 0 ≤ n) (h1 : n ≤ 9223372036854775807) : IntKind.i64.wrap n = n := by
  rw [IntKind.wrap_i64]
  omega
theorem index_any (s : ByteArray) (w : World) : Calls Tryz.prog 54 #[.string s, .string { data := #[32] }] w fun e w' => e = .returned (.int .i64 (Lib.indexByte s.data.toList 32)) ∧ w' = w :=
  Any.strings_Index_one Tryz.lays143 s 32 w
theorem index_is (s : ByteArray) : Lib.indexB s spcB = Lib.indexByte s.data.toList 32 := Lib.index_one _ _
theorem count_is (s : ByteArray) : Lib.countB s spcB = Lib.countByte s.data.toList 32 := Lib.count_one _ _
set_option maxHeartbeats 1000000 in
set_option maxRecDepth 100000 in
theorem count_any (s : ByteArray) (w : World) : Calls Tryz.prog 53 #[.string s, .string { data := #[32] }] w fun e w' => e = .returned (.int .i64 (Lib.countByte s.data.toList 32 : Nat)) ∧ w' = w := by
  go_enter Tryz.func53, Tryz.ntmps53
  go_wp2
  rw [run_callFunc_extern Tryz.func78 (by kernel_rfl) (by kernel_rfl) (by kernel_rfl) (e := Extern.BytealgCount.count) (by kernel_rfl), Lib.run_countString]
  simp only [Result.andThen]
  rw [Oper.upon_value]
  go_wp2
  go_ret
  exact ⟨rfl, rfl⟩
/-- The words of a text. -/
def wordsB (s : ByteArray) : List ByteArray := Lib.splitB spcB 0 (Lib.countB s spcB) s
theorem words_len (s : ByteArray) : (wordsB s).length = Lib.countB s spcB + 1 := Lib.splitB_all spcB (by decide) 0 _ s rfl
theorem words_cut (s : ByteArray) : (wordsB s).map (fun x => x.data.toList) = cutG 32 [] s.data.toList := split_words 32 _ s rfl

set_option maxHeartbeats 4000000 in
theorem gen_any (s : ByteArray) (N : Nat) (w : World) (hs : s.size ≤ 3000) (hN : N = Lib.countB s spcB + 1) :
    Calls Tryz.prog 44 #[.string s, .string { data := #[32] }, .int .i64 0, .int .i64 (-1)] w fun e w' =>
      e = .returned (.slice (some ⟨w.heap.size, 0, none⟩) N N) ∧ w' = w.alloc (.cells (Lib.cellsOf (wordsB s) N) 9) := by
  have hP : wordsB s = Lib.splitB spcB 0 (N - 1) s := by rw [hN]; rfl
  have hWL : (wordsB s).length = N := by rw [words_len, hN]
  have hle : Lib.countB s spcB ≤ s.size := Lib.countB_le spcB (by decide) s.size s (Nat.le_refl _)
  have CN := hide (fun W => count_any s W)
  rw [← count_is, show Lib.countB s spcB = N - 1 by omega] at CN
  obtain ⟨cz, hcz⟩ : ∃ cz : Int, cz = ((N - 1 : Nat) : Int) := ⟨_, rfl⟩
  rw [← hcz] at CN
  have eN : min (cz + 1) ((s.size : Int) + 1) = (N : Int) := by omega
  have hN1 : 1 ≤ N := by omega
  have hN4 : N ≤ 3001 := by omega
  have hc0 : IntKind.i64.wrap (cz + 1) = cz + 1 := wrap_mid (by omega) (by omega)
  have HP := hide hP
  have HWL := hide hWL
  clear hP hN hle hcz hWL
  have hmk := run_make_row' (P := Tryz.prog) 23 9 (.string ByteArray.empty) 16 Tryz.underlying23 (by kernel_rfl) rfl .i64 .i64 N (by omega) (by omega)
  go_enter Tryz.func44, Tryz.ntmps44
  go_wp2_with (go_at_call 53; refine (CN.out _).mono ?_; rintro e w' ⟨rfl, hw⟩; rw [hw])
  clear hmk
  go_loopg [0, 10] (N - 1) (fun g s0 s10 wr => ∃ (done : List ByteArray) (rest : ByteArray), s0 = .string rest ∧ s10 = .int .i64 done.length ∧ done.length ≤ N - 1 ∧ g = N - 1 - done.length ∧ Hid (rest.size ≤ s.size) ∧
    wr = w.alloc (.cells (Lib.cellsOf done N) 9) ∧ Hid (done ++ Lib.splitB spcB 0 (N - 1 - done.length) rest = wordsB s))
  case atStart => exact ⟨[], s, rfl, rfl, Nat.zero_le _, rfl, Nat.le_refl _, by rw [Lib.cellsOf_nil], by rw [HP.out]; rfl⟩
  case round =>
    obtain ⟨done, rest, rfl, rfl, hd, rfl, hrs, rfl, HS⟩ := hrel
    have hnext : (Lib.cellsOf done N)[done.length]? = some (.string ByteArray.empty) := Lib.cellsOf_next (by omega)
    have HF : Hid (Lib.splitB spcB 0 (N - 1 - done.length) rest = [rest] → N = done.length + 1 ∧ (Lib.cellsOf done N).setIfInBounds done.length (.string rest) = Lib.cellsOf (wordsB s) N) := fun h => by
      have e := HS.out
      rw [h] at e
      have e2 := HWL.out
      rw [← e] at e2 ⊢
      exact ⟨by simp at e2; omega, Lib.cellsOf_set (by omega) rest⟩
    have hrs' := hrs.out
    clear hrs
    by_cases hlt : done.length < N - 1
    · have hltz : ((done.length : Nat) : Int) < (N : Int) - 1 := by omega
      rcases index_parts rest.data.toList 32 with ⟨hix, _⟩ | ⟨a, r, hr, _, hix⟩
      · have HM := hide (Lib.splitB_miss spcB 0 (N - 1 - done.length) rest (by rw [index_is]; exact hix))
        obtain ⟨f1, f2⟩ := HF.out HM.out
        omega
      · have hroom : a.length + 1 ≤ rest.size := by
          have := len_size rest
          rw [hr] at this
          simp at this
          omega
        have HT := hide (Lib.splitB_hit spcB 0 (N - 1 - (done.length + 1)) rest a.length (by rw [index_is]; exact hix))
        clear hr
        have c0 : ¬ ((a.length : Int) < 0) := by omega
        have c1 : (0 : Int) ≤ (a.length : Int) + 0 := by omega
        have c2 : ((a.length : Int) + 0) ≤ (rest.size : Int) := by omega
        have c3 : (0 : Int) ≤ (a.length : Int) + 1 := by omega
        have c4 : ((a.length : Int) + 1) ≤ (rest.size : Int) := by omega
        go_wp2_with (go_at_call 54; refine (index_any rest _).mono ?_; rintro e w' ⟨rfl, hw⟩; rw [hw, hix])
        go_roundg (N - 1 - (done.length + 1))
        case measure => omega
        case rel =>
          refine ⟨done ++ [rest.extract 0 a.length], rest.extract (a.length + 1) rest.size, rfl, by simp, by simp; omega, by simp, (show (rest.extract (a.length + 1) rest.size).size ≤ s.size by rw [ByteArray.size_extract]; omega), by rw [← Lib.cellsOf_set (by omega)], ?_⟩
          have e1 := HS.out
          rw [show N - 1 - done.length = (N - 1 - (done.length + 1)) + 1 by omega, HT.out] at e1
          rw [← e1]
          simp only [List.length_append, List.length_cons, List.length_nil, List.append_assoc, List.singleton_append]
          rfl
    · have hltz : ¬ (((done.length : Nat) : Int) < (N : Int) - 1) := by omega
      go_wp2
      go_ret
      obtain ⟨f1, f2⟩ := HF.out (by rw [show N - 1 - done.length = 0 by omega]; rfl)
      have e3 := f1.symm
      rw [← f2]
      refine ⟨?_, rfl⟩
      first
        | (rw [e3]; rfl)
        | rfl
        | (clear hnext HF HS; simp [e3]; done)
        | trace_state
theorem split_any (s : ByteArray) (w : World) (hs : s.size ≤ 3000) :
    Calls Tryz.prog 33 #[.string s, .string { data := #[32] }] w fun e w' =>
      e = .returned (.slice (some ⟨w.heap.size, 0, none⟩) (wordsB s).length (wordsB s).length) ∧ w' = w.alloc (.cells ((wordsB s).map Value.string).toArray 9) := by
  have c := gen_any s _ w hs rfl
  rw [← words_len, Lib.cellsOf_full] at c
  generalize (wordsB s).length = N at c ⊢
  generalize ((wordsB s).map Value.string).toArray = cs at c ⊢
  go_enter Tryz.func33, Tryz.ntmps33
  go_wp2_with (go_at_call 44; refine c.mono ?_; rintro e w' ⟨rfl, hw⟩; rw [hw])
  go_ret
  exact ⟨rfl, rfl⟩
set_option maxHeartbeats 2000000 in
theorem lcut_hit (s : ByteArray) (i : Nat) (w : World) (hix : Lib.indexByte s.data.toList 10 = i) (hr : i + 1 ≤ s.size) (hs : s.size ≤ 1000000) :
    Calls Tryz.prog 42 #[.string s, .string { data := #[10] }] w fun e w' => e = .returned (.tuple #[.string (s.extract 0 i), .string (s.extract (i + 1) s.size), .bool true]) ∧ Below w.heap.size w w' := by
  have c1 : (0 : Int) ≤ i := by omega
  have c2 : (i : Int) ≤ s.size := by omega
  have c3 : (0 : Int) ≤ (i : Int) + 1 := by omega
  have c4 : (i : Int) + 1 ≤ s.size := by omega
  have c5 : IntKind.i64.wrap ((i : Int) + 1) = (i : Int) + 1 := wrap_mid (by omega) (by omega)
  go_enter Tryz.func42, Tryz.ntmps42
  go_wp2_with (go_at_call 51; refine (Any.stringslite_Index_one Tryz.lays219 s 10 _).mono ?_; rintro e w1 ⟨rfl, hw⟩; rw [hw, hix])
  go_region
  all_goals
   go_wp2
   go_ret3
   exact ⟨rfl, Below.drew (Below.refl _ _)⟩
set_option maxHeartbeats 2000000 in
theorem lcut_no (s : ByteArray) (w : World) (hix : Lib.indexByte s.data.toList 10 = -1) (hs : s.size ≤ 1000000) :
    Calls Tryz.prog 42 #[.string s, .string { data := #[10] }] w fun e w' => e = .returned (.tuple #[.string s, .string { data := #[] }, .bool false]) ∧ Below w.heap.size w w' := by
  go_enter Tryz.func42, Tryz.ntmps42
  go_wp2_with (go_at_call 51; refine (Any.stringslite_Index_one Tryz.lays219 s 10 _).mono ?_; rintro e w1 ⟨rfl, hw⟩; rw [hw, hix])
  go_ret3
  exact ⟨rfl, Below.refl _ _⟩
set_option maxHeartbeats 2000000 in
theorem cut_hit (s : ByteArray) (i : Nat) (w : World) (hix : Lib.indexByte s.data.toList 10 = i) (hr : i + 1 ≤ s.size) (hs : s.size ≤ 1000000) :
    Calls Tryz.prog 31 #[.string s, .string { data := #[10] }] w fun e w' => e = .returned (.tuple #[.string (s.extract 0 i), .string (s.extract (i + 1) s.size), .bool true]) ∧ Below w.heap.size w w' := by
  have CU := hide (fun (W : World) => lcut_hit s i W hix hr hs)
  clear hix hr hs
  go_enter Tryz.func31, Tryz.ntmps31
  go_wp2_with (go_at_call 42; refine (CU.out _).mono ?_; rintro e w1 ⟨rfl, hb1⟩)
  go_ret3
  exact ⟨rfl, hb1⟩
set_option maxHeartbeats 2000000 in
theorem cut_no (s : ByteArray) (w : World) (hix : Lib.indexByte s.data.toList 10 = -1) (hs : s.size ≤ 1000000) :
    Calls Tryz.prog 31 #[.string s, .string { data := #[10] }] w fun e w' => e = .returned (.tuple #[.string s, .string { data := #[] }, .bool false]) ∧ Below w.heap.size w w' := by
  have CU := hide (fun (W : World) => lcut_no s W hix hs)
  clear hix hs
  go_enter Tryz.func31, Tryz.ntmps31
  go_wp2_with (go_at_call 42; refine (CU.out _).mono ?_; rintro e w1 ⟨rfl, hb1⟩)
  go_ret3
  exact ⟨rfl, hb1⟩
/-- What a text says next: its first line, and the rest. -/
theorem cut_line (s : ByteArray) (w : World) (hne : ¬ s.size = 0) (hs : s.size ≤ 3000) :
    ∃ a b : ByteArray, ∃ f : Bool, linesL s.data.toList = a.data.toList :: linesL b.data.toList ∧ b.size < s.size ∧ a.size ≤ s.size ∧
      Calls Tryz.prog 31 #[.string s, .string { data := #[10] }] w fun e w' => e = .returned (.tuple #[.string a, .string b, .bool f]) ∧ Below w.heap.size w w' := by
  rcases index_parts s.data.toList 10 with ⟨h1, h2⟩ | ⟨a, r, h1, h2, h3⟩
  · refine ⟨s, { data := #[] }, false, ?_, ?_, Nat.le_refl _, cut_no s w h1 (by omega)⟩
    · rw [lines_no (fun e => hne (by rw [← len_size, e]; rfl)) h2]
      rfl
    · show 0 < s.size
      omega
  · have hr : a.length + 1 ≤ s.size := by
      have := len_size s
      rw [h1] at this
      simp at this
      omega
    refine ⟨s.extract 0 a.length, s.extract (a.length + 1) s.size, true, ?_, ?_, ?_, cut_hit s a.length w h3 hr (by omega)⟩
    · rw [cut_fst h1, cut_snd h1, h1, lines_at h2]
    · rw [ByteArray.size_extract]; omega
    · rw [ByteArray.size_extract]; omega
end Go.Proofs.YtjkcplpmhjnahaaGreatDoor.Run
