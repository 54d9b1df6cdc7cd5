/-
  How a slice of strings, of signed images and of ints among the arguments reads, opened: rows of records, each string no longer than the reach, each int in its bounds.
-/
import Derived.Test.YtgnpffkfbacejaaGreatDoorPack1
import Derived.SizedLaws
import Derived.ChangeArms
namespace Go.Proofs.YtgnpffkfbacejaaGreatDoor.OpenL
open Go.ChangeShapes Go.WideShapes Go.ChangeAt Go.RowKit
open Go.Proofs.YtgnpffkfbacejaaGreatDoor.M
set_option linter.unusedVariables false

theorem all_mem {H : Type} {P : Program} {e : TypeId} {x : DataW H} : ∀ {es : List (DataW H)}, x ∈ es → ∀ k ∈ x.weights P e, k ∈ DataW.weightsAll P e es
  | [], h, _, _ => by cases h
  | y :: r, h, k, hk => by
    unfold DataW.weightsAll
    rcases List.mem_cons.1 h with rfl | h
    · exact List.mem_append_left _ hk
    · exact List.mem_append_right _ (all_mem h k hk)
/-- A slice of records: each record's reading, and that what it weighs is of what the slice weighs. -/
theorem recsW {α : Type} {H : Type} {Q : α → DataW H → Prop} {n : Nat} {cv : α → List Value} {enc : TypeId × Value → H} {P : Program} {W : World} {b0 : Nat} {sp : Nat → Bool} {hd : Bool} {t e : TypeId} {a : Option Addr} {len cap : Nat} {d : DataW H} {ps : List MemPlace}
    (hu : P.underlying t = some (.slice e)) (hce : P.cellsOf e = n) (hn : 0 < n) (hel : ∀ (fuel : Nat) (cs : List Value) (x : DataW H × List MemPlace), DataW.trod enc P W b0 sp hd fuel e cs = some x → ∃ r : α, cs = cv r ∧ Q r x.1)
    (h : DataW.Trod enc P W b0 sp hd t (.slice a len cap) d ps) :
    ∃ xs : List α, len = xs.length ∧ len ≤ maxLen ∧ (a = none → cap = 0) ∧ RRow n cv W a xs ∧ ∀ r ∈ xs, ∃ y, Q r y ∧ ∀ k ∈ y.weights P e, k ∈ d.weights P t := by
  obtain ⟨fuel, hf⟩ := h
  rcases DataW.trod_slice hu hf with ⟨hcs, _⟩ | ⟨x, l, c, elems, rest, m, _, hcs, hx, hb, hlc, hm, hlen, hat, _, _⟩
  · simp [Value.cells] at hcs
    obtain ⟨rfl, rfl, rfl⟩ := hcs
    exact ⟨[], rfl, by unfold maxLen; omega, fun _ => rfl, Or.inl rfl, fun r h => by simp at h⟩
  · simp [Value.cells] at hcs
    obtain ⟨rfl, rfl, rfl⟩ := hcs
    rw [hce] at hat
    have hdd : d = .slice (elems.map (·.1)) (rest.map (·.1)) := congrArg (fun q => q.1) hx
    have hwt : ∀ y ∈ elems, ∀ k ∈ y.1.weights P e, k ∈ d.weights P t := fun y hy k hk => by
      rw [hdd]
      unfold DataW.weights
      rw [hu]
      exact List.mem_cons_of_mem _ (List.mem_append_left _ (all_mem (List.mem_map_of_mem hy) k hk))
    have hex : ∀ i, i < len → ∃ r : α, W.cells? b0 (x.add (i * n)) n = some (cv r) ∧ ∃ y, Q r y ∧ ∀ k ∈ y.weights P e, k ∈ d.weights P t := by
      intro i hi
      have h1 := hat i hi
      rw [List.getElem?_eq_getElem (by omega), Option.bind_eq_some_iff] at h1
      obtain ⟨cs, h2, h3⟩ := h1
      obtain ⟨r, rfl, hq⟩ := hel _ _ _ h3
      exact ⟨r, h2, _, hq, hwt _ (List.getElem_mem ..)⟩
    have hls : ∀ k, k ≤ len → ∃ xs : List α, xs.length = k ∧ ∀ (i : Nat) (r : α), xs[i]? = some r → W.cells? b0 (x.add (i * n)) n = some (cv r) ∧ ∃ y, Q r y ∧ ∀ k ∈ y.weights P e, k ∈ d.weights P t := by
      intro k
      induction k with
      | zero => exact fun _ => ⟨[], rfl, fun i r h => by simp at h⟩
      | succ k ih =>
        intro hk
        obtain ⟨xs, h1, h2⟩ := ih (by omega)
        obtain ⟨r, hr⟩ := hex k (by omega)
        refine ⟨xs ++ [r], by simp [h1], fun i q hq => ?_⟩
        by_cases hi : i < xs.length
        · rw [List.getElem?_append_left hi] at hq; exact h2 i q hq
        · rw [List.getElem?_append_right (by omega)] at hq
          by_cases he : i - xs.length = 0
          · rw [he] at hq
            simp at hq
            subst hq
            rw [show i = k by omega]
            exact hr
          · rw [List.getElem?_eq_none (by simp; omega)] at hq
            cases hq
    obtain ⟨xs, hx1, hx2⟩ := hls len (Nat.le_refl _)
    have hspot : 0 < len → x.spot = none := by
      intro h0
      obtain ⟨r, hr, _⟩ := hex 0 h0
      have hc := World.cells?_some hr
      have h1 := hc.2.2 0 hn
      have hlt : 0 < (cv r).length := by have := hc.2.1; omega
      rw [List.getElem?_eq_getElem hlt] at h1
      have h2 := World.cell?_spot h1
      obtain ⟨bb, oo, ss⟩ := x
      cases ss with
      | none => rfl
      | some q => simp [Addr.add] at h2
    refine ⟨xs, hx1.symm, by omega, fun hno => (by cases hno), ?_, fun r hr => (by obtain ⟨i, hi⟩ := List.getElem?_of_mem hr; exact (hx2 i r hi).2)⟩
    by_cases h0 : len = 0
    · exact Or.inl (List.length_eq_zero_iff.1 (by omega))
    · obtain ⟨b, off, spot⟩ := x
      have hs : spot = none := hspot (by omega)
      subst hs
      refine Or.inr ⟨b, off, rfl, fun k r hr j v hv => ?_⟩
      have hc := World.cells?_some (hx2 k r hr).1
      have hj : j < n := by have := (List.getElem?_eq_some_iff.1 hv).1; have := hc.2.1; omega
      have h1 := hc.2.2 j hj
      rw [add_none, add_none, hv] at h1
      exact h1
theorem reach {H : Type} {P : Program} {ts : List TypeId} {ds : List (DataW H)} {j : Nat} {t : TypeId} {d : DataW H} (h : (DataW.weightsEach P ts ds).all (· ≤ reachBytes) = true) (ht : ts[j]? = some t) (hd : ds[j]? = some d) : ∀ k ∈ d.weights P t, k ≤ 140737488351232 := fun k hk => by
  have h1 := List.all_eq_true.1 h _ (DataW.weights_mem_each ht hd k hk)
  have e : reachBytes = 140737488351232 := by decide
  rw [e] at h1
  simpa using h1

def strV (s : ByteArray) : List Value := [.string s]
def intV (x : Int) : List Value := [.int .i64 x]
theorem strings {H : Type} {enc : TypeId × Value → H} {P : Program} {W : World} {b0 : Nat} {sp : Nat → Bool} {hd : Bool} {t e : TypeId} {a : Option Addr} {len cap : Nat} {d : DataW H} {ps : List MemPlace} {ts : List TypeId} {ds : List (DataW H)} {j : Nat}
    (hu : P.underlying t = some (.slice e)) (he : P.underlying e = some .string) (hce : P.cellsOf e = 1) (hsz : (DataW.weightsEach P ts ds).all (· ≤ reachBytes) = true) (ht : ts[j]? = some t) (hdj : ds[j]? = some d)
    (h : DataW.Trod enc P W b0 sp hd t (.slice a len cap) d ps) :
    ∃ xs : List ByteArray, len = xs.length ∧ len ≤ maxLen ∧ (a = none → cap = 0) ∧ RRow 1 strV W a xs ∧ ∀ s ∈ xs, s.size ≤ 140737488351232 := by
  obtain ⟨xs, h1, h2, h3, h4, h5⟩ := recsW (α := ByteArray) (Q := fun s y => y = .lit (.string s.data.toList)) (cv := strV) hu hce (by omega) (fun f cs x hx => by
    obtain ⟨s, e1, e2, _⟩ := DataW.trod_string he hx
    exact ⟨s, e1, by rw [e2]⟩) h
  refine ⟨xs, h1, h2, h3, h4, fun s hs => ?_⟩
  obtain ⟨y, rfl, hw⟩ := h5 s hs
  have := reach hsz ht hdj _ (hw s.data.toList.length (by simp [DataW.weights]))
  simpa using this
theorem ints {H : Type} {enc : TypeId × Value → H} {P : Program} {W : World} {b0 : Nat} {sp : Nat → Bool} {hd : Bool} {t e : TypeId} {a : Option Addr} {len cap : Nat} {d : DataW H} {ps : List MemPlace}
    (hu : P.underlying t = some (.slice e)) (he : P.underlying e = some (.int .i64)) (hce : P.cellsOf e = 1) (h : DataW.Trod enc P W b0 sp hd t (.slice a len cap) d ps) :
    ∃ xs : List Int, len = xs.length ∧ len ≤ maxLen ∧ (a = none → cap = 0) ∧ Row W a xs ∧ ∀ x ∈ xs, -9223372036854775808 ≤ x ∧ x ≤ 9223372036854775807 := by
  obtain ⟨xs, h1, h2, h3, h4, h5⟩ := recsW (α := Int) (Q := fun z y => (Lit.int .i64 z).wf = true) (cv := intV) hu hce (by omega) (fun f cs x hx => by
    obtain ⟨z, e1, e2, e3⟩ := DataW.trod_int he hx
    exact ⟨z, e1, e3⟩) h
  refine ⟨xs, h1, h2, h3, ?_, fun z hz => ?_⟩
  · rcases h4 with h | ⟨b, off, ha, hc⟩
    · exact Or.inl h
    · refine Or.inr ⟨b, off, ha, fun k x hx => ?_⟩
      have := hc k x hx 0 _ rfl
      simpa only [Nat.mul_one, Nat.add_zero] using this
  · obtain ⟨y, hw, _⟩ := h5 z hz
    unfold Lit.wf at hw
    rw [Bool.and_eq_true, decide_eq_true_iff, decide_eq_true_iff] at hw
    exact ⟨hw.1, hw.2⟩
theorem readG {H : Type} {enc : TypeId × Value → H} {P : Program} {W : World} {b0 : Nat} {sp : Nat → Bool} {hd : Bool} {t : TypeId} {f0 f1 g0 g1 g2 k0 k1 : Field}
    (hu : P.underlying t = some (.struct #[f0, f1])) (hi : P.underlying f0.type = some (.struct #[g0, g1, g2])) (hs : P.underlying f1.type = some (.struct #[k0, k1]))
    (h0 : P.underlying g0.type = some .string) (h1 : P.underlying g1.type = some (.int .i64)) (h2 : P.underlying g2.type = some .string) (h3 : P.underlying k0.type = some (.int .i64)) (h4 : P.underlying k1.type = some (.int .i64))
    (o0 : f0.offset = 0) (o1 : f1.offset = 3) (p0 : g0.offset = 0) (p1 : g1.offset = 1) (p2 : g2.offset = 2) (p3 : k0.offset = 0) (p4 : k1.offset = 1)
    (c0 : P.cellsOf f0.type = 3) (c1 : P.cellsOf f1.type = 2) (e0 : P.cellsOf g0.type = 1) (e1 : P.cellsOf g1.type = 1) (e2 : P.cellsOf g2.type = 1) (e3 : P.cellsOf k0.type = 1) (e4 : P.cellsOf k1.type = 1) (ct : P.cellsOf t = 5)
    (fuel : Nat) (cs : List Value) (x : DataW H × List MemPlace) (h : DataW.trod enc P W b0 sp hd fuel t cs = some x) :
    ∃ s : Sg, cs = sgV s ∧ x.1 = .agg [.agg [.lit (.string s.nm.data.toList), .lit (.int .i64 s.v), .lit (.string s.cd.data.toList)], .agg [.lit (.int .i64 s.p), .lit (.int .i64 s.a)]] := by
  obtain ⟨xs, m, _, hx, hlen, hl, hy⟩ := DataW.trod_struct hu h
  have hl2 : xs.length = 2 := hl
  obtain ⟨x0, x1, rfl⟩ : ∃ x0 x1, xs = [x0, x1] := by
    match xs, hl2 with
    | [x0, x1], _ => exact ⟨x0, x1, rfl⟩
  have q0 := hy 0 f0 rfl
  have q1 := hy 1 f1 rfl
  rw [o0, c0] at q0
  rw [o1, c1] at q1
  rw [ct] at hlen
  obtain ⟨ys, m1, _, hyx, _, hl3, hz⟩ := DataW.trod_struct hi q0
  obtain ⟨zs, m2, _, hzx, _, hl4, hw⟩ := DataW.trod_struct hs q1
  have hl3' : ys.length = 3 := hl3
  have hl4' : zs.length = 2 := hl4
  obtain ⟨y0, y1, y2, rfl⟩ : ∃ y0 y1 y2, ys = [y0, y1, y2] := by
    match ys, hl3' with
    | [y0, y1, y2], _ => exact ⟨y0, y1, y2, rfl⟩
  obtain ⟨z0, z1, rfl⟩ : ∃ z0 z1, zs = [z0, z1] := by
    match zs, hl4' with
    | [z0, z1], _ => exact ⟨z0, z1, rfl⟩
  have r0 := hz 0 g0 rfl
  have r1 := hz 1 g1 rfl
  have r2 := hz 2 g2 rfl
  have r3 := hw 0 k0 rfl
  have r4 := hw 1 k1 rfl
  rw [p0, e0] at r0
  rw [p1, e1] at r1
  rw [p2, e2] at r2
  rw [p3, e3] at r3
  rw [p4, e4] at r4
  obtain ⟨nm, n0, rfl, _⟩ := DataW.trod_string h0 r0
  obtain ⟨z, n1, rfl, _⟩ := DataW.trod_int h1 r1
  obtain ⟨cd, n2, rfl, _⟩ := DataW.trod_string h2 r2
  obtain ⟨p, n3, rfl, _⟩ := DataW.trod_int h3 r3
  obtain ⟨a, n4, rfl, _⟩ := DataW.trod_int h4 r4
  refine ⟨⟨nm, z, cd, p, a⟩, ?_, ?_⟩
  · match cs, hlen with
    | [u0, u1, u2, u3, u4], _ =>
      simp at n0 n1 n2 n3 n4
      rw [n0, n1, n2, n3, n4]
      rfl
  · have := congrArg (fun q => q.1) hx
    subst hyx
    subst hzx
    simpa using this
theorem signeds {H : Type} {enc : TypeId × Value → H} {P : Program} {W : World} {b0 : Nat} {sp : Nat → Bool} {hd : Bool} {t e : TypeId} {a : Option Addr} {len cap : Nat} {d : DataW H} {ps : List MemPlace} {ts : List TypeId} {ds : List (DataW H)} {j : Nat} {fs gs ks : Array Field} {t0 t1 u0 u1 u2 v0 v1 : TypeId}
    (hu : P.underlying t = some (.slice e)) (hce : P.cellsOf e = 5) (hel : ∀ (fuel : Nat) (cs : List Value) (x : DataW H × List MemPlace), DataW.trod enc P W b0 sp hd fuel e cs = some x → ∃ s : Sg, cs = sgV s ∧ x.1 = .agg [.agg [.lit (.string s.nm.data.toList), .lit (.int .i64 s.v), .lit (.string s.cd.data.toList)], .agg [.lit (.int .i64 s.p), .lit (.int .i64 s.a)]])
    (hue : P.underlying e = some (.struct fs)) (hfs : fs.toList.map (·.type) = [t0, t1]) (hg : P.underlying t0 = some (.struct gs)) (hgs : gs.toList.map (·.type) = [u0, u1, u2]) (hk : P.underlying t1 = some (.struct ks)) (hks : ks.toList.map (·.type) = [v0, v1])
    (hsz : (DataW.weightsEach P ts ds).all (· ≤ reachBytes) = true) (ht : ts[j]? = some t) (hdj : ds[j]? = some d) (h : DataW.Trod enc P W b0 sp hd t (.slice a len cap) d ps) :
    ∃ xs : List Sg, len = xs.length ∧ len ≤ maxLen ∧ (a = none → cap = 0) ∧ RRow 5 sgV W a xs ∧ ∀ s ∈ xs, s.nm.size ≤ 140737488351232 ∧ s.cd.size ≤ 140737488351232 := by
  obtain ⟨xs, h1, h2, h3, h4, h5⟩ := recsW (α := Sg) (Q := fun s y => y = .agg [.agg [.lit (.string s.nm.data.toList), .lit (.int .i64 s.v), .lit (.string s.cd.data.toList)], .agg [.lit (.int .i64 s.p), .lit (.int .i64 s.a)]]) (cv := sgV) hu hce (by omega) hel h
  refine ⟨xs, h1, h2, h3, h4, fun s hs => ?_⟩
  obtain ⟨y, rfl, hw⟩ := h5 s hs
  have hwt : DataW.weights (H := H) P e (.agg [.agg [.lit (.string s.nm.data.toList), .lit (.int .i64 s.v), .lit (.string s.cd.data.toList)], .agg [.lit (.int .i64 s.p), .lit (.int .i64 s.a)]]) = [s.nm.data.toList.length, s.cd.data.toList.length] := by
    simp [DataW.weights, hue, hfs, hg, hgs, hk, hks, DataW.weightsEach]
  rw [hwt] at hw
  have k1 := reach hsz ht hdj _ (hw s.nm.data.toList.length (by simp))
  have k2 := reach hsz ht hdj _ (hw s.cd.data.toList.length (by simp))
  exact ⟨by simpa using k1, by simpa using k2⟩
theorem signed {H : Type} {enc : TypeId × Value → H} {P : Program} {W : World} {b0 base : Nat} {sp : Nat → Bool} {hd : Bool} {t : TypeId} {v : Value} {d : DataW H} {ps : List MemPlace} {ts : List TypeId} {ds : List (DataW H)} {j : Nat} {fs gs ks : Array Field} {t0 t1 u0 u1 u2 v0 v1 : TypeId}
    (hce : P.cellsOf t = 5) (hel : ∀ (fuel : Nat) (cs : List Value) (x : DataW H × List MemPlace), DataW.trod enc P W b0 sp hd fuel t cs = some x → ∃ s : Sg, cs = sgV s ∧ x.1 = .agg [.agg [.lit (.string s.nm.data.toList), .lit (.int .i64 s.v), .lit (.string s.cd.data.toList)], .agg [.lit (.int .i64 s.p), .lit (.int .i64 s.a)]])
    (hue : P.underlying t = some (.struct fs)) (hfs : fs.toList.map (·.type) = [t0, t1]) (hg : P.underlying t0 = some (.struct gs)) (hgs : gs.toList.map (·.type) = [u0, u1, u2]) (hk : P.underlying t1 = some (.struct ks)) (hks : ks.toList.map (·.type) = [v0, v1])
    (hsz : (DataW.weightsEach P ts ds).all (· ≤ reachBytes) = true) (ht : ts[j]? = some t) (hdj : ds[j]? = some d) (hv : Value.okWide P W .any base t v) (h : DataW.Trod enc P W b0 sp hd t v d ps) :
    ∃ s : Sg, v = .agg (sgV s).toArray ∧ s.nm.size ≤ 140737488351232 ∧ s.cd.size ≤ 140737488351232 := by
  obtain ⟨cs, rfl, hsc, _⟩ : ∃ cs, v = .agg cs ∧ cs.size = P.cellsOf t ∧ Row.okWide P W .any base t cs := by
    simpa [Value.okWide, hue] using hv
  obtain ⟨fuel, hf⟩ := h
  obtain ⟨s, e1, e2⟩ := hel _ _ _ hf
  have hcs : (Value.agg cs).cells.toList = cs.toList := rfl
  rw [hcs] at e1
  refine ⟨s, by rw [← e1], ?_⟩
  have hwt : DataW.weights (H := H) P t d = [s.nm.data.toList.length, s.cd.data.toList.length] := by
    rw [show d = _ from e2]
    simp [DataW.weights, hue, hfs, hg, hgs, hk, hks, DataW.weightsEach]
  have k1 := reach hsz ht hdj s.nm.data.toList.length (by rw [hwt]; simp)
  have k2 := reach hsz ht hdj s.cd.data.toList.length (by rw [hwt]; simp)
  exact ⟨by simpa using k1, by simpa using k2⟩
end Go.Proofs.YtgnpffkfbacejaaGreatDoor.OpenL
