/-
  Plain mathematics on two slots: which is picked, what putting, starting and being good make of them; there is always just one that is good.
-/
import Derived.Test.YtojdaifnljghkabDoorPack1
namespace Go.Proofs.YtojdaifnljghkabDoor.M
set_option linter.unusedVariables false

/-- A signed image. -/
structure Sg where
  nm : ByteArray
  v : Int
  cd : ByteArray
  p : Int
  a : Int
/-- A slot. -/
structure Sl where
  s : Sg
  full : Bool
  tries : Int
  good : Bool
/-- Two slots, and which runs. -/
structure St where
  x : Sl
  y : Sl
  r : Bool
def noSg : Sg := ⟨{ data := #[] }, 0, { data := #[] }, 0, 0⟩
def noSl : Sl := ⟨noSg, false, 0, false⟩
def sgV (s : Sg) : List Value := [.string s.nm, .int .i64 s.v, .string s.cd, .int .i64 s.p, .int .i64 s.a]
def slV (l : Sl) : List Value := sgV l.s ++ [.bool l.full, .int .i64 l.tries, .bool l.good]
def St.at (t : St) (i : Bool) : Sl := match i with | false => t.x | true => t.y
def St.put (t : St) (i : Bool) (l : Sl) : St := match i with | false => { t with x := l } | true => { t with y := l }
def idx (i : Bool) : Int := match i with | false => 0 | true => 1
def newT (s : Sg) : St := ⟨⟨s, true, 0, true⟩, noSl, false⟩
def safeT (t : St) : Bool := if (t.at t.r).good = true then t.r else !t.r
def pickT (t : St) : Bool := if (t.at (!safeT t)).full = true ∧ (t.at (!safeT t)).good = false ∧ 0 < (t.at (!safeT t)).tries then !safeT t else safeT t
def sgE (s : Sg) : Int := imgE s.nm s.v s.cd
def putE (t : St) (s : Sg) : Int := if sgE s = 0 then (if (t.at t.r).good = true then 0 else 6) else sgE s
def putT (t : St) (s : Sg) : St := if putE t s = 0 then t.put (!t.r) ⟨s, true, 3, false⟩ else t
def runT (t : St) (i : Bool) : St := { t with r := i }
def lessL (l : Sl) : Sl := if l.good = true then l else { l with tries := l.tries - 1 }
def startT (t : St) : St := (runT t (pickT t)).put (pickT t) (lessL (t.at (pickT t)))
def goodE (t : St) : Int := if (t.at t.r).good = true then 7 else 0
def goodT (t : St) : St := if (t.at t.r).good = true then t else (t.put t.r { (t.at t.r) with good := true, tries := 0 }).put (!t.r) noSl
/-- Just one is good, and it is full, as is the one that runs; no more tries than three. -/
structure OkT (t : St) : Prop where
  one : (t.at (!safeT t)).good = false
  good : (t.at (safeT t)).good = true
  full : (t.at (safeT t)).full = true
  run : (t.at t.r).full = true
  x : 0 ≤ t.x.tries ∧ t.x.tries ≤ 3
  y : 0 ≤ t.y.tries ∧ t.y.tries ≤ 3
theorem ok_new (s : Sg) : OkT (newT s) := ⟨rfl, rfl, rfl, rfl, by simp [newT], by simp [newT, noSl]⟩
theorem ok_put {t : St} (h : OkT t) (s : Sg) : OkT (putT t s) := by
  unfold putT
  by_cases he : putE t s = 0
  · rw [if_pos he]
    have hg : (t.at t.r).good = true := by
      unfold putE at he
      by_cases h1 : sgE s = 0
      · rw [if_pos h1] at he
        by_cases h2 : (t.at t.r).good = true
        · exact h2
        · rw [if_neg h2] at he; cases he
      · rw [if_neg h1] at he; exact absurd he h1
    obtain ⟨h1, h2, h3, h6, h4, h5⟩ := h
    obtain ⟨x, y, r⟩ := t
    cases r
    · simp [St.at] at hg h6
      refine ⟨?_, ?_, ?_, ?_, h4, ?_⟩ <;> simp [safeT, St.at, St.put, hg, h6]
    · simp [St.at] at hg h6
      refine ⟨?_, ?_, ?_, ?_, ?_, h5⟩ <;> simp [safeT, St.at, St.put, hg, h6]
  · rw [if_neg he]; exact h
theorem ok_start {t : St} (h : OkT t) : OkT (startT t) := by
  obtain ⟨h1, h2, h3, h6, h4, h5⟩ := h
  obtain ⟨x, y, r⟩ := t
  unfold startT
  by_cases hp : ((⟨x, y, r⟩ : St).at (!safeT ⟨x, y, r⟩)).full = true ∧ ((⟨x, y, r⟩ : St).at (!safeT ⟨x, y, r⟩)).good = false ∧ 0 < ((⟨x, y, r⟩ : St).at (!safeT ⟨x, y, r⟩)).tries
  · have e : pickT ⟨x, y, r⟩ = !safeT ⟨x, y, r⟩ := by unfold pickT; rw [if_pos hp]
    rw [e]
    generalize safeT ⟨x, y, r⟩ = q at *
    cases q
    · simp [St.at] at h1 h2 h3 hp h4 h5
      refine ⟨?_, ?_, ?_, ?_, ?_, ?_⟩ <;> simp [safeT, St.at, St.put, runT, lessL, h1, h2, h3, h4, hp] <;> omega
    · simp [St.at] at h1 h2 h3 hp h4 h5
      refine ⟨?_, ?_, ?_, ?_, ?_, ?_⟩ <;> simp [safeT, St.at, St.put, runT, lessL, h1, h2, h3, h5, hp] <;> omega
  · have e : pickT ⟨x, y, r⟩ = safeT ⟨x, y, r⟩ := by unfold pickT; rw [if_neg hp]
    rw [e]
    generalize safeT ⟨x, y, r⟩ = q at *
    cases q
    · simp [St.at] at h1 h2 h3 h4 h5
      refine ⟨?_, ?_, ?_, ?_, ?_, ?_⟩ <;> simp [safeT, St.at, St.put, runT, lessL, h1, h2, h3, h4, h5]
    · simp [St.at] at h1 h2 h3 h4 h5
      refine ⟨?_, ?_, ?_, ?_, ?_, ?_⟩ <;> simp [safeT, St.at, St.put, runT, lessL, h1, h2, h3, h4, h5]
theorem ok_good {t : St} (h : OkT t) : OkT (goodT t) := by
  unfold goodT
  by_cases hg : (t.at t.r).good = true
  · rw [if_pos hg]; exact h
  · rw [if_neg hg]
    obtain ⟨h1, h2, h3, h6, h4, h5⟩ := h
    obtain ⟨x, y, r⟩ := t
    cases r
    · simp [St.at] at h6
      refine ⟨?_, ?_, ?_, ?_, ?_, ?_⟩ <;> simp [safeT, St.at, St.put, noSl, h6]
    · simp [St.at] at h6
      refine ⟨?_, ?_, ?_, ?_, ?_, ?_⟩ <;> simp [safeT, St.at, St.put, noSl, h6]
/-- How many tries are left in the slot that is not good. -/
def leftT (t : St) : Int := if (t.at (!safeT t)).full = true then (t.at (!safeT t)).tries else 0
end Go.Proofs.YtojdaifnljghkabDoor.M
