/-
  Plain facts on the map of what words want: what it says of every word; and the walk's step at a map's literal.
-/
import Derived.Test.YtjkcplpmhjnahaaGreatDoorPack1
import Derived.Test.YtjkcplpmhjnahaaGreatDoorPack2
namespace Go.Proofs.YtjkcplpmhjnahaaGreatDoor.Run
open Go.ChangeShapes Go.WideShapes Go.ChangeAt Go.RowKit Go.WideMaps
open Go.Proofs.YtjkcplpmhjnahaaGreatDoor.M
set_option linter.unusedVariables false

/-- How a want reads: two ints. -/
def wantR (v : Value) : Option (DataW Unit × List MemPlace) :=
  match v with
  | .agg c => match c.toList with
    | [.int .i64 a, .int .i64 b] => some (.agg [.lit (.int .i64 a), .lit (.int .i64 b)], [])
    | _ => none
  | _ => none
theorem wantR_mk (a b : Int) : wantR (.agg #[.int .i64 a, .int .i64 b]) = some (.agg [.lit (.int .i64 a), .lit (.int .i64 b)], []) := rfl
theorem wantR_inv {v : Value} {a b : Int} {ps : List MemPlace} (h : wantR v = some (.agg [.lit (.int .i64 a), .lit (.int .i64 b)], ps)) : v = .agg #[.int .i64 a, .int .i64 b] := by
  unfold wantR at h
  split at h
  · rename_i c
    split at h
    · rename_i x y e
      injection h with h
      injection h with h _
      injection h with h
      injection h with h1 h2
      injection h2 with h2 _
      injection h1 with h1
      injection h1 with _ h1
      injection h2 with h2
      injection h2 with _ h2
      subst h1
      subst h2
      congr 1
      apply Array.ext'
      rw [e]
    · cases h
  · cases h
/-- The map, put together. -/
def putW (D : DataW Unit) (k : List UInt8) (a b : Int) : DataW Unit := D.put (.string k) (.agg [.lit (.int .i64 a), .lit (.int .i64 b)])
def wD1 : DataW Unit := putW (.map []) kwExtend 0 2
def wD2 : DataW Unit := putW wD1 kwDigest 0 1
def wD3 : DataW Unit := putW wD2 kwMeasure 1 0
def wD4 : DataW Unit := putW wD3 kwRaise 1 1
def wD5 : DataW Unit := putW wD4 kwMay 1 1
def wD6 : DataW Unit := putW wD5 kwPublic 0 1
def wD7 : DataW Unit := putW wD6 kwSign 0 3
def wD8 : DataW Unit := putW wD7 kwCheck 0 4
theorem putW_same {D : DataW Unit} (h : Maps.IsMap D) (k : List UInt8) (a b : Int) (z : DataW Unit) : (putW D k a b).atKey (.string k) z = .agg [.lit (.int .i64 a), .lit (.int .i64 b)] ∧ Maps.has (putW D k a b) (.string k) = true :=
  ⟨Maps.atKey_put_same h (k := .string k) trivial _ _, Maps.has_put_same h (k := .string k) trivial _⟩
theorem lit_ne {k l : List UInt8} (h : ¬ l = k) : (Lit.string l) ≠ Lit.string k := fun e => h (by injection e)
theorem putW_other {D : DataW Unit} {k l : List UInt8} (h : ¬ l = k) (a b : Int) (z : DataW Unit) : (putW D k a b).atKey (.string l) z = D.atKey (.string l) z ∧ Maps.has (putW D k a b) (.string l) = Maps.has D (.string l) :=
  ⟨Maps.atKey_put_other (lit_ne h) _ _, Maps.has_put_other (lit_ne h) _⟩
theorem putW_map {D : DataW Unit} (h : Maps.IsMap D) (k : List UInt8) (a b : Int) : Maps.IsMap (putW D k a b) := h.put _ _
theorem wD0_map : Maps.IsMap (.map [] : DataW Unit) := ⟨_, rfl⟩
theorem wD_maps : Maps.IsMap wD1 ∧ Maps.IsMap wD2 ∧ Maps.IsMap wD3 ∧ Maps.IsMap wD4 ∧ Maps.IsMap wD5 ∧ Maps.IsMap wD6 ∧ Maps.IsMap wD7 := by
  have h1 := putW_map wD0_map kwExtend 0 2
  have h2 := putW_map h1 kwDigest 0 1
  have h3 := putW_map h2 kwMeasure 1 0
  have h4 := putW_map h3 kwRaise 1 1
  have h5 := putW_map h4 kwMay 1 1
  have h6 := putW_map h5 kwPublic 0 1
  exact ⟨h1, h2, h3, h4, h5, h6, putW_map h6 kwSign 0 3⟩
/-- What a word wants, as the map says it: how many names, how many numbers, and whether it is known. -/
def wantV (l : List UInt8) : Int × Int × Bool := match wantW l with
  | none => (0, 0, false)
  | some (named, m) => (if named = true then 1 else 0, m, true)
def zeroW : DataW Unit := .agg [.lit (.int .i64 0), .lit (.int .i64 0)]
theorem wants_say (l : List UInt8) : wD8.atKey (.string l) zeroW = .agg [.lit (.int .i64 (wantV l).1), .lit (.int .i64 (wantV l).2.1)] ∧ Maps.has wD8 (.string l) = (wantV l).2.2 := by
  obtain ⟨m1, m2, m3, m4, m5, m6, m7⟩ := wD_maps
  by_cases h8 : l = kwCheck
  · subst h8
    exact putW_same m7 kwCheck 0 4 zeroW
  have e8 := putW_other (D := wD7) h8 0 4 zeroW
  by_cases h7 : l = kwSign
  · subst h7
    have e := putW_same m6 kwSign 0 3 zeroW
    exact ⟨e8.1.trans e.1, e8.2.trans e.2⟩
  have e7 := putW_other (D := wD6) h7 0 3 zeroW
  by_cases h6 : l = kwPublic
  · subst h6
    have e := putW_same m5 kwPublic 0 1 zeroW
    exact ⟨e8.1.trans (e7.1.trans e.1), e8.2.trans (e7.2.trans e.2)⟩
  have e6 := putW_other (D := wD5) h6 0 1 zeroW
  by_cases h5 : l = kwMay
  · subst h5
    have e := putW_same m4 kwMay 1 1 zeroW
    exact ⟨e8.1.trans (e7.1.trans (e6.1.trans e.1)), e8.2.trans (e7.2.trans (e6.2.trans e.2))⟩
  have e5 := putW_other (D := wD4) h5 1 1 zeroW
  by_cases h4 : l = kwRaise
  · subst h4
    have e := putW_same m3 kwRaise 1 1 zeroW
    exact ⟨e8.1.trans (e7.1.trans (e6.1.trans (e5.1.trans e.1))), e8.2.trans (e7.2.trans (e6.2.trans (e5.2.trans e.2)))⟩
  have e4 := putW_other (D := wD3) h4 1 1 zeroW
  by_cases h3 : l = kwMeasure
  · subst h3
    have e := putW_same m2 kwMeasure 1 0 zeroW
    exact ⟨e8.1.trans (e7.1.trans (e6.1.trans (e5.1.trans (e4.1.trans e.1)))), e8.2.trans (e7.2.trans (e6.2.trans (e5.2.trans (e4.2.trans e.2))))⟩
  have e3 := putW_other (D := wD2) h3 1 0 zeroW
  by_cases h2 : l = kwDigest
  · subst h2
    have e := putW_same m1 kwDigest 0 1 zeroW
    exact ⟨e8.1.trans (e7.1.trans (e6.1.trans (e5.1.trans (e4.1.trans (e3.1.trans e.1))))), e8.2.trans (e7.2.trans (e6.2.trans (e5.2.trans (e4.2.trans (e3.2.trans e.2)))))⟩
  have e2 := putW_other (D := wD1) h2 0 1 zeroW
  by_cases h1 : l = kwExtend
  · subst h1
    have e := putW_same wD0_map kwExtend 0 2 zeroW
    exact ⟨e8.1.trans (e7.1.trans (e6.1.trans (e5.1.trans (e4.1.trans (e3.1.trans (e2.1.trans e.1)))))), e8.2.trans (e7.2.trans (e6.2.trans (e5.2.trans (e4.2.trans (e3.2.trans (e2.2.trans e.2))))))⟩
  have e1 := putW_other (D := .map []) h1 0 2 zeroW
  have hw : wantV l = (0, 0, false) := by
    unfold wantV wantW
    rw [if_neg h1, if_neg h2, if_neg h6, if_neg h3, if_neg h4, if_neg h5, if_neg h7, if_neg h8]
  rw [hw]
  exact ⟨e8.1.trans (e7.1.trans (e6.1.trans (e5.1.trans (e4.1.trans (e3.1.trans (e2.1.trans (e1.1.trans rfl))))))), e8.2.trans (e7.2.trans (e6.2.trans (e5.2.trans (e4.2.trans (e3.2.trans (e2.2.trans (e1.2.trans rfl)))))))⟩
/-- The map in memory. -/
def WMap (W : World) (m n : Nat) (D : DataW Unit) : Prop := W.ownsMap Tryz.prog 9 wantR m n D
theorem WMap.lt {W : World} {m n : Nat} {D : DataW Unit} (h : WMap W m n D) : m < W.heap.size := World.ownsMap.lt h
theorem WMap.heap {W W' : World} {m n : Nat} {D : DataW Unit} (h : WMap W m n D) (e : W'.heap[m]? = W.heap[m]?) : WMap W' m n D := by
  obtain ⟨es, clock, hb, r⟩ := h
  exact ⟨es, clock, e.trans hb, r⟩
theorem wmap_put {W : World} {m n : Nat} {D : DataW Unit} (h : WMap W m n D) (hn : n ≤ 100) (s : ByteArray) (k : List UInt8) (hk : s.data.toList = k) (hs : s.size ≤ 100) (a b : Int) (n' : Nat) (hn' : n + 1 = n') (D' : DataW Unit) (hD : putW D k a b = D') : ∃ W', (Instr.mapUpdate 71 (.map (some m)) (.string s) (.agg #[.int .i64 a, .int .i64 b])).run Tryz.prog W = .ok () W' ∧ WMap W' m n' D' ∧ W.grownBy W' (some m) := by
  subst hk hn' hD
  exact World.ownsMap.update h Count.string_law Tryz.underlying71 (by unfold maxLen; omega) (keyOf_string_mk Tryz.underlying9 (by unfold maxLen; omega)) (wantR_mk a b)
theorem zero_want (w : World) : (zeroValue 70).run Tryz.prog w = .ok (.agg #[.int .i64 0, .int .i64 0]) w := by kernel_rfl
theorem wmap_look {W : World} {m n : Nat} (h : WMap W m n wD8) (s : ByteArray) (hs : s.size ≤ 1000000) : (Instr.lookup 71 (.map (some m)) (.string s) true).run Tryz.prog W = .ok (.tuple #[.agg #[.int .i64 (wantV s.data.toList).1, .int .i64 (wantV s.data.toList).2.1], .bool (wantV s.data.toList).2.2]) W := by
  obtain ⟨v, ps, hrun, hv⟩ := World.ownsMap.look_ok h Count.string_law Tryz.underlying71 (zero_want W) (wantR_mk 0 0) (keyOf_string_mk Tryz.underlying9 (show s.size ≤ maxLen by unfold maxLen; omega))
  obtain ⟨h1, h2⟩ := wants_say s.data.toList
  rw [show (DataW.agg [DataW.lit (Lit.int .i64 0), DataW.lit (Lit.int .i64 0)] : DataW Unit) = zeroW from rfl, h1] at hv
  rw [h2, wantR_inv hv] at hrun
  exact hrun
end Go.Proofs.YtjkcplpmhjnahaaGreatDoor.Run
