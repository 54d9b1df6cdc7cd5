/-
  How a signed image among the arguments reads, opened: an image's three cells and a seal's two, each string no longer than the reach.
-/
import Derived.Test.YtjhcgahhlmpfhaaDoorOpenI
import Derived.Test.YtjhcgahhlmpfhaaDoorSign1
namespace Go.Proofs.YtjhcgahhlmpfhaaDoor.OpenG
open Go.ChangeShapes Go.WideShapes Go.ChangeAt Go.RowKit
open Go.Proofs.YtjhcgahhlmpfhaaDoor.M

theorem signed {H : Type} {enc : TypeId × Value → H} {P : Program} {W : World} {b0 base : Nat} {sp : Nat → Bool} {hd : Bool} {t : TypeId} {f0 f1 g0 g1 g2 k0 k1 : Field} {v : Value} {d : DataW H} {ps : List MemPlace}
    (hu : P.underlying t = some (.struct #[f0, f1])) (hi : P.underlying f0.type = some (.struct #[g0, g1, g2])) (hs : P.underlying f1.type = some (.struct #[k0, k1]))
    (h0 : P.underlying g0.type = some .string) (h1 : P.underlying g1.type = some (.int .i64)) (h2 : P.underlying g2.type = some .string) (h3 : P.underlying k0.type = some (.int .i64)) (h4 : P.underlying k1.type = some (.int .i64))
    (o0 : f0.offset = 0) (o1 : f1.offset = 3) (p0 : g0.offset = 0) (p1 : g1.offset = 1) (p2 : g2.offset = 2) (p3 : k0.offset = 0) (p4 : k1.offset = 1)
    (c0 : P.cellsOf f0.type = 3) (c1 : P.cellsOf f1.type = 2) (e0 : P.cellsOf g0.type = 1) (e1 : P.cellsOf g1.type = 1) (e2 : P.cellsOf g2.type = 1) (e3 : P.cellsOf k0.type = 1) (e4 : P.cellsOf k1.type = 1) (ct : P.cellsOf t = 5)
    (hv : Value.okWide P W .any base t v) (h : DataW.Trod enc P W b0 sp hd t v d ps) :
    ∃ (nm cd : ByteArray) (z p a : Int), v = .agg (sgnC nm z cd p a) ∧ d = .agg [.agg [.lit (.string nm.data.toList), .lit (.int .i64 z), .lit (.string cd.data.toList)], .agg [.lit (.int .i64 p), .lit (.int .i64 a)]] := by
  obtain ⟨cs, rfl, hsz, _⟩ : ∃ cs, v = .agg cs ∧ cs.size = P.cellsOf t ∧ Row.okWide P W .any base t cs := by
    simpa [Value.okWide, hu] using hv
  rw [ct] at hsz
  obtain ⟨fuel, hf⟩ := h
  obtain ⟨xs, m, _, hx, _, hl, hy⟩ := DataW.trod_struct hu hf
  have hl2 : xs.length = 2 := hl
  obtain ⟨x0, x1, rfl⟩ : ∃ x0 x1, xs = [x0, x1] := by
    match xs, hl2 with
    | [x0, x1], _ => exact ⟨x0, x1, rfl⟩
  have q0 := hy 0 f0 rfl
  have q1 := hy 1 f1 rfl
  rw [o0, c0] at q0
  rw [o1, c1] at q1
  obtain ⟨ys, m1, _, hyx, _, hl3, hz⟩ := DataW.trod_struct hi q0
  obtain ⟨zs, m2, _, hzx, _, hl4, hw⟩ := DataW.trod_struct hs q1
  have hl3' : ys.length = 3 := hl3
  have hl4' : zs.length = 2 := hl4
  obtain ⟨y0, y1, y2, rfl⟩ : ∃ y0 y1 y2, ys = [y0, y1, y2] := by
    match ys, hl3' with
    | [y0, y1, y2], _ => exact ⟨y0, y1, y2, rfl⟩
  obtain ⟨z0, z1, rfl⟩ : ∃ z0 z1, zs = [z0, z1] := by
    match zs, hl4' with
    | [z0, z1], _ => exact ⟨z0, z1, rfl⟩
  have r0 := hz 0 g0 rfl
  have r1 := hz 1 g1 rfl
  have r2 := hz 2 g2 rfl
  have r3 := hw 0 k0 rfl
  have r4 := hw 1 k1 rfl
  rw [p0, e0] at r0
  rw [p1, e1] at r1
  rw [p2, e2] at r2
  rw [p3, e3] at r3
  rw [p4, e4] at r4
  obtain ⟨nm, n0, rfl, _⟩ := DataW.trod_string h0 r0
  obtain ⟨z, n1, rfl, _⟩ := DataW.trod_int h1 r1
  obtain ⟨cd, n2, rfl, _⟩ := DataW.trod_string h2 r2
  obtain ⟨p, n3, rfl, _⟩ := DataW.trod_int h3 r3
  obtain ⟨a, n4, rfl, _⟩ := DataW.trod_int h4 r4
  refine ⟨nm, cd, z, p, a, ?_, ?_⟩
  · congr 1
    apply Array.ext'
    have hcs : (Value.agg cs).cells.toList = cs.toList := rfl
    rw [hcs] at n0 n1 n2 n3 n4
    have hlen : cs.toList.length = 5 := by simpa using hsz
    generalize cs.toList = l at n0 n1 n2 n3 n4 hlen
    match l, hlen with
    | [u0, u1, u2, u3, u4], _ =>
      simp at n0 n1 n2 n3 n4
      rw [n0, n1, n2, n3, n4]
      rfl
  · have := congrArg (fun q => q.1) hx
    subst hyx
    subst hzx
    simpa using this

theorem sized {H : Type} {P : Program} {ts : List TypeId} {ds : List (DataW H)} {j : Nat} {t : TypeId} {fs gs ks : Array Field} {a c : List UInt8} {z p q : Int} {t0 t1 u0 u1 u2 v0 v1 : TypeId}
    (h : (DataW.weightsEach P ts ds).all (· ≤ reachBytes) = true) (ht : ts[j]? = some t) (hu : P.underlying t = some (.struct fs)) (hfs : fs.toList.map (·.type) = [t0, t1])
    (hg : P.underlying t0 = some (.struct gs)) (hgs : gs.toList.map (·.type) = [u0, u1, u2]) (hk : P.underlying t1 = some (.struct ks)) (hks : ks.toList.map (·.type) = [v0, v1])
    (hd : ds[j]? = some (.agg [.agg [.lit (.string a), .lit (.int .i64 z), .lit (.string c)], .agg [.lit (.int .i64 p), .lit (.int .i64 q)]])) : a.length ≤ 140737488351232 ∧ c.length ≤ 140737488351232 := by
  have key : ∀ k, k ∈ DataW.weights (H := H) P t (.agg [.agg [.lit (.string a), .lit (.int .i64 z), .lit (.string c)], .agg [.lit (.int .i64 p), .lit (.int .i64 q)]]) → k ≤ reachBytes := fun k hk => by
    have := List.all_eq_true.1 h _ (DataW.weights_mem_each ht hd k hk)
    simpa using this
  have hw : DataW.weights (H := H) P t (.agg [.agg [.lit (.string a), .lit (.int .i64 z), .lit (.string c)], .agg [.lit (.int .i64 p), .lit (.int .i64 q)]]) = [a.length, c.length] := by
    simp [DataW.weights, hu, hfs, hg, hgs, hk, hks, DataW.weightsEach]
  rw [hw] at key
  have e : reachBytes = 140737488351232 := by decide
  rw [e] at key
  exact ⟨key _ (by simp), key _ (by simp)⟩
end Go.Proofs.YtjhcgahhlmpfhaaDoor.OpenG
