/-
  How an image among the arguments reads, opened: two strings and an int, each string no longer than the reach; and what the listed variables of the library give the walk.
-/
import Derived.Test.YtdbpeikijonjmaaDoorImg2
import Derived.OpenShut
import Derived.ChangeSame
import Derived.ChangeArms
import Derived.SizedLaws
import Derived.RowKit
import Derived.Lib.LaidTab
import Derived.Stop.LaidErr
namespace Go.Proofs.YtdbpeikijonjmaaDoor.OpenI
open Go.ChangeShapes Go.WideShapes Go.ChangeAt Go.RowKit
open Go.Proofs.YtdbpeikijonjmaaDoor.M

theorem image {H : Type} {enc : TypeId × Value → H} {P : Program} {W : World} {b0 base : Nat} {sp : Nat → Bool} {hd : Bool} {t : TypeId} {f0 f1 f2 : Field} {v : Value} {d : DataW H} {ps : List MemPlace}
    (hu : P.underlying t = some (.struct #[f0, f1, f2])) (h0 : P.underlying f0.type = some .string) (h1 : P.underlying f1.type = some (.int .i64)) (h2 : P.underlying f2.type = some .string)
    (o0 : f0.offset = 0) (o1 : f1.offset = 1) (o2 : f2.offset = 2) (c0 : P.cellsOf f0.type = 1) (c1 : P.cellsOf f1.type = 1) (c2 : P.cellsOf f2.type = 1) (ct : P.cellsOf t = 3)
    (hv : Value.okWide P W .any base t v) (h : DataW.Trod enc P W b0 sp hd t v d ps) :
    ∃ (nm cd : ByteArray) (z : Int), v = .agg (imgC nm z cd) ∧ d = .agg [.lit (.string nm.data.toList), .lit (.int .i64 z), .lit (.string cd.data.toList)] := by
  obtain ⟨cs, rfl, hsz, _⟩ : ∃ cs, v = .agg cs ∧ cs.size = P.cellsOf t ∧ Row.okWide P W .any base t cs := by
    simpa [Value.okWide, hu] using hv
  rw [ct] at hsz
  obtain ⟨fuel, hf⟩ := h
  obtain ⟨xs, m, _, hx, _, hl, hy⟩ := DataW.trod_struct hu hf
  have hl3 : xs.length = 3 := hl
  obtain ⟨x0, x1, x2, rfl⟩ : ∃ x0 x1 x2, xs = [x0, x1, x2] := by
    match xs, hl3 with
    | [x0, x1, x2], _ => exact ⟨x0, x1, x2, rfl⟩
  have g0 := hy 0 f0 rfl
  have g1 := hy 1 f1 rfl
  have g2 := hy 2 f2 rfl
  rw [o0, c0] at g0
  rw [o1, c1] at g1
  rw [o2, c2] at g2
  obtain ⟨nm, e0, rfl, _⟩ := DataW.trod_string h0 g0
  obtain ⟨z, e1, rfl, _⟩ := DataW.trod_int h1 g1
  obtain ⟨cd, e2, rfl, _⟩ := DataW.trod_string h2 g2
  refine ⟨nm, cd, z, ?_, ?_⟩
  · congr 1
    apply Array.ext'
    have hcs : (Value.agg cs).cells.toList = cs.toList := rfl
    rw [hcs] at e0 e1 e2
    have hlen : cs.toList.length = 3 := by simpa using hsz
    generalize cs.toList = l at e0 e1 e2 hlen
    match l, hlen with
    | [a, b, c], _ =>
      simp at e0 e1 e2
      rw [e0, e1, e2]
      rfl
  · have := congrArg (fun q => q.1) hx
    simpa using this

theorem sized {H : Type} {P : Program} {ts : List TypeId} {ds : List (DataW H)} {j : Nat} {t : TypeId} {fs : Array Field} {a c : List UInt8} {z : Int} {t0 t1 t2 : TypeId}
    (h : (DataW.weightsEach P ts ds).all (· ≤ reachBytes) = true) (ht : ts[j]? = some t) (hu : P.underlying t = some (.struct fs)) (hfs : fs.toList.map (·.type) = [t0, t1, t2])
    (hd : ds[j]? = some (.agg [.lit (.string a), .lit (.int .i64 z), .lit (.string c)])) : a.length ≤ 140737488351232 ∧ c.length ≤ 140737488351232 := by
  have key : ∀ k, k ∈ DataW.weights (H := H) P t (.agg [.lit (.string a), .lit (.int .i64 z), .lit (.string c)]) → k ≤ reachBytes := fun k hk => by
    have := List.all_eq_true.1 h _ (DataW.weights_mem_each ht hd k hk)
    simpa using this
  have hw : DataW.weights (H := H) P t (.agg [.lit (.string a), .lit (.int .i64 z), .lit (.string c)]) = [a.length, c.length] := by
    simp [DataW.weights, hu, hfs, DataW.weightsEach]
  rw [hw] at key
  have e : reachBytes = 140737488351232 := by decide
  rw [e] at key
  exact ⟨key _ (by simp), key _ (by simp)⟩

/-- The cells of a listed table. -/
def val1 : DataW Unit → List Value
  | .lit (.int k z) => [.int k z]
  | _ => []
def val2 : DataW Unit → Array Value
  | .agg ps => (ps.flatMap fun d => match d with | .agg qs => qs.flatMap val1 | d => val1 d).toArray
  | _ => #[]

/-- A world in which variables hold what is listed. -/
def put (cs : Array Value) : Obj → Obj
  | .cells _ t frozen => .cells cs t frozen
  | o => o
def lay (w : World) (l : List (Nat × Array Value)) : World := { w with heap := l.foldl (fun h x => h.modify x.1 (put x.2)) w.heap }
theorem pow_tab : Rows.laid_internal_strconv_uint64pow10 = Lib.tabData (H := Unit) .u64 Lib.pow10Tab := by kernel_rfl
theorem has_of {W : World} {nT nS : String} {r q : List (String × DataW Unit)} (hT : Tryd.prog.globalNamed nT = some 1) (hS : Tryd.prog.globalNamed nS = some 3)
    (h3 : laidMet Tryd.prog ((nT, Rows.laid_internal_strconv_uint64pow10) :: r) W) (h6 : laidMet Tryd.prog ((nS, Rows.laid_strconv_ErrSyntax) :: q) W) : Image.Has W := by
  rw [pow_tab] at h3
  have tb := Lib.tabIs_of_head (t := 116) (e := 98) hT (by kernel_rfl) (n := 20) Tryd.underlying116 Tryd.underlying98 (by kernel_rfl) (by kernel_rfl) h3
  obtain ⟨a, s, hv, _⟩ := laid_sentinel (ti := 27) (tp := 134) (te := 136) (ts := 9) h6 hS (by kernel_rfl) Tryd.underlying27 (fun u hu => typeName_ptr_named (nm := "errors.errorString") (by kernel_rfl) (by kernel_rfl) (by decide) u (hu.trans (congrArg some (by decide)))) Tryd.underlying134 Tryd.underlying136 rfl rfl Tryd.underlying9 (by kernel_rfl) (by kernel_rfl)
  have hc := World.var?_cell hS hv 0
  refine ⟨⟨?_, fun nm hg => ?_⟩, 134, .pointer (some a), by simpa using hc⟩
  · exact World.block_lt_of_cell? W ⟨1, 0, none⟩ (tb.cell hT 0 (by decide))
  · unfold Lib.TabIs at tb
    rw [← tb]
    unfold World.var?
    rw [hg, hT]
end Go.Proofs.YtdbpeikijonjmaaDoor.OpenI
