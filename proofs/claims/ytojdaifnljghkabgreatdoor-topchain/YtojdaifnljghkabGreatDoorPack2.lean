/-
  Several texts in one: Contracts of errors.As at a target of type api.Errno, of plain.Told and of stairsame.Error: of no error the number nought; of an Errno its number. / Contracts of slices.IndexFunc and slices.ContainsFunc at a row of ints and any predicate that leaves what was there: whether any of them is so. / Contracts of package bank's Check, isMask and asked: what each returns, and that memory that was there stays as it was. / Contracts of package bank's Digest and Same: what each returns for every bank and every mask, and that memory that was there stays as it was. / Contract of package bank's Extend: for every bank, every register and every number what it returns, and that memory that was there stays as it was. / What '==' is at two banks, the step of a walk that stores a bank into a block that was laid last, and plain mathematics on extended banks, likeness and digests. / Plain mathematics on counts of one name alone: its least version is the greatest that was, in whatever order. / Plain mathematics on events: what is wrong with some, the bank they come to, that more go on from where fewer were, and which may change places. / Plain mathematics on digests: a step can be undone from either side; where one register alone that is asked for is another one, so is the digest; boxes: what a lid tells.
-/
import Derived.Test.YtojdaifnljghkabGreatDoorRows
import Derived.Test.YtojdaifnljghkabGreatDoorPack1
import Derived.WalkKit
import Derived.ProofKit
import Derived.Handy
import Derived.LaidEql
import Derived.Stop.Asserts
import Derived.RowKitTokens
import Derived.Deep.LoopGhost
import Derived.Shelf.Abstract
import Derived.Deep.DeepCutAuto
import Derived.Deep.WholeRow
import Derived.Deep.QuietTactic
import Derived.Laws.ResultCell
import Derived.Laws.CopyOwn
import Derived.ChangeKeysEq
import Derived.Laws.StructEq
namespace Go.Proofs.YtojdaifnljghkabGreatDoor.As
open Go.RowKit Go.Extern.Stop Go.Stop Go.Extern
set_option linter.unusedVariables false

/-- What the variable errors.errorType holds: the handle of type error. -/
def Handle (w : World) : Prop := w.cell? ⟨0, 0, none⟩ = some (.iface 206 (.agg #[.pointer (some ⟨4, 33, none⟩)]))
theorem Handle.lt {w : World} (h : Handle w) : 0 < w.heap.size := World.block_lt_of_cell? w _ h
theorem Handle.below {w w' : World} (h : Handle w) (hb : Below w.heap.size w w') : Handle w' := by
  unfold Handle
  rw [hb.cell (p := ⟨0, 0, none⟩) h.lt]
  exact h

theorem valueOfP (t : Addr) (w : World) : (ReflectliteValue.unpack (.iface 159 (.pointer (some t)))).run Tryz.prog w
    = .ok (.agg #[.pointer (some ⟨4, 159, none⟩), .pointer (some ⟨w.heap.size, 0, none⟩), .int .u64 150]) (w.alloc (.cells #[.pointer (some t)] 159)) := by kernel_rfl
theorem typeP (a : Addr) (w : World) : (ReflectliteValue.methodAny (ReflectliteValue.valueError "reflectlite.Value.Type" 0) (fun t _ _ _ => ReflectliteType.toType t) #[.agg #[.pointer (some ⟨4, 159, none⟩), .pointer (some a), .int .u64 150]]).run Tryz.prog w
    = .ok (.iface 206 (.agg #[.pointer (some ⟨4, 159, none⟩)])) w := by kernel_rfl
theorem methodKind (h : Value) (w : World) : (Go.method 367 206 (.agg #[h]) "Kind").run Tryz.prog w = .ok (175, h) w := by kernel_rfl
theorem kindP (w : World) : ((ReflectliteType.abiMethod fun t => Functor.map (fun a : Nat => Value.int IntKind.u8 (a : Int)) (Rtype.kind t)) #[.pointer (some ⟨4, 159, none⟩)]).run Tryz.prog w = .ok (.int .u8 22) w := by kernel_rfl
theorem kindE (w : World) : ((ReflectliteType.abiMethod fun t => Functor.map (fun a : Nat => Value.int IntKind.u8 (a : Int)) (Rtype.kind t)) #[.pointer (some ⟨4, 96, none⟩)]).run Tryz.prog w = .ok (.int .u8 2) w := by kernel_rfl

theorem partsP (a : Addr) (w : World) : (ReflectliteValue.parts (.agg #[.pointer (some ⟨4, 159, none⟩), .pointer (some a), .int .u64 150])).run Tryz.prog w = .ok (some (159, a, 150)) w := by kernel_rfl
theorem isNilP (a p : Addr) (W : World) (ha : W.cell? a = some (.pointer (some p))) :
    (ReflectliteValue.method (ReflectliteValue.valueError "reflectlite.Value.IsNil" 0) ReflectliteValue.isNil #[.agg #[.pointer (some ⟨4, 159, none⟩), .pointer (some a), .int .u64 150]]).run Tryz.prog W = .ok (.bool false) W := by
  show (ReflectliteValue.parts _ >>= _).run _ _ = _
  simp only [Sem.run_bind, Array.getLit, List.getElem_toArray, List.getElem_cons_zero, partsP, Result.andThen]
  simp [ReflectliteValue.isNil, loadVar, isAgg, underlying, Tryz.underlying159, ha, Result.andThen]

theorem methodElem (h : Value) (w : World) : (Go.method 367 206 (.agg #[h]) "Elem").run Tryz.prog w = .ok (185, .agg #[h]) w := by kernel_rfl
theorem methodImplements (h : Value) (w : World) : (Go.method 367 206 (.agg #[h]) "Implements").run Tryz.prog w = .ok (186, .agg #[h]) w := by kernel_rfl
theorem methodAssignableTo (h : Value) (w : World) : (Go.method 367 206 (.agg #[h]) "AssignableTo").run Tryz.prog w = .ok (183, .agg #[h]) w := by kernel_rfl
theorem elemP (w : World) : (ReflectliteType.method ReflectliteType.elem #[.agg #[.pointer (some ⟨4, 159, none⟩)]]).run Tryz.prog w = .ok (.iface 206 (.agg #[.pointer (some ⟨4, 96, none⟩)])) w := by kernel_rfl
theorem implementsE (w : World) : (ReflectliteType.relation "Implements" ReflectliteType.implements_ #[.agg #[.pointer (some ⟨4, 96, none⟩)], .iface 206 (.agg #[.pointer (some ⟨4, 33, none⟩)])]).run Tryz.prog w = .ok (.bool true) w := by kernel_rfl
theorem typeOfE (v : Value) (w : World) : (ReflectliteType.typeOf #[.iface 96 v]).run Tryz.prog w = .ok (.iface 206 (.agg #[.pointer (some ⟨4, 96, none⟩)])) w := by kernel_rfl
theorem assignableE (w : World) : (ReflectliteType.relation "AssignableTo" ReflectliteType.assignableTo #[.agg #[.pointer (some ⟨4, 96, none⟩)], .iface 206 (.agg #[.pointer (some ⟨4, 96, none⟩)])]).run Tryz.prog w = .ok (.bool true) w := by kernel_rfl
theorem valueOfE (k : Int) (w : World) : (ReflectliteValue.unpack (.iface 96 (.int .i64 k))).run Tryz.prog w
    = .ok (.agg #[.pointer (some ⟨4, 96, none⟩), .pointer (some ⟨w.heap.size, 0, none⟩), .int .u64 130]) (w.alloc (.cells #[.int .i64 k] 96)) := by kernel_rfl

theorem elemOfP (w : World) : (Rtype.elem? 159).run Tryz.prog w = .ok (some 96) w := by kernel_rfl
theorem mkE (p : Addr) (w : World) : (ReflectliteValue.mk 96 p ReflectliteValue.flagAddr).run Tryz.prog w = .ok (.agg #[.pointer (some ⟨4, 96, none⟩), .pointer (some p), .int .u64 386]) w := by kernel_rfl
theorem elemVP (a p : Addr) (W : World) (ha : W.cell? a = some (.pointer (some p))) :
    (ReflectliteValue.method (ReflectliteValue.valueError "reflectlite.Value.Elem" 0) ReflectliteValue.elem #[.agg #[.pointer (some ⟨4, 159, none⟩), .pointer (some a), .int .u64 150]]).run Tryz.prog W
      = .ok (.agg #[.pointer (some ⟨4, 96, none⟩), .pointer (some p), .int .u64 386]) W := by
  show (ReflectliteValue.parts _ >>= _).run _ _ = _
  simp only [Sem.run_bind, Array.getLit, List.getElem_toArray, List.getElem_cons_zero, partsP, Result.andThen]
  simp [ReflectliteValue.elem, loadVar, isAgg, underlying, Tryz.underlying159, ha, Result.andThen, elemOfP, mkE]
theorem partsA (a : Addr) (w : World) : (ReflectliteValue.parts (.agg #[.pointer (some ⟨4, 96, none⟩), .pointer (some a), .int .u64 386])).run Tryz.prog w = .ok (some (96, a, 386)) w := by kernel_rfl
theorem partsE (a : Addr) (w : World) : (ReflectliteValue.parts (.agg #[.pointer (some ⟨4, 96, none⟩), .pointer (some a), .int .u64 130])).run Tryz.prog w = .ok (some (96, a, 130)) w := by kernel_rfl
theorem directE (w : World) : (Rtype.directlyAssignable 96 96).run Tryz.prog w = .ok true w := by kernel_rfl
theorem setE (ta b : Addr) (k : Int) (old : Value) (W : World) (hb : W.cell? b = some (.int .i64 k)) (ht : W.cell? ta = some old) (hf : W.frozen? ta = false) :
    (ReflectliteValue.set #[.agg #[.pointer (some ⟨4, 96, none⟩), .pointer (some ta), .int .u64 386], .agg #[.pointer (some ⟨4, 96, none⟩), .pointer (some b), .int .u64 130]]).run Tryz.prog W
      = .ok (.tuple #[]) (W.setCell ta (.int .i64 k)) := by
  show (ReflectliteValue.parts _ >>= _).run _ _ = _
  simp only [Sem.run_bind, Array.getLit, List.getElem_toArray, List.getElem_cons_zero, List.getElem_cons_succ, partsA, partsE, Result.andThen]
  simp [ReflectliteValue.flagAddr, loadVar, isAgg, underlying, Tryz.underlying96, hb, Result.andThen, directE, storeVar, Value.cells, storeCells, Addr.add]
  rw [run_store Tryz.prog W ta _ _ (by rfl)]
  simp [ht, hf]

set_option maxHeartbeats 4000000 in
theorem as_hit (k : Int) (t : Addr) (old : Value) (w : World) (hg0 : Handle w) (ht0 : w.cell? t = some old) (hf0 : w.frozen? t = false) :
    Calls Tryz.prog 93 #[.iface 96 (.int .i64 k), .iface 159 (.pointer (some t))] w fun ev w' => ev = .returned (.bool true) ∧ w' = ((((w.alloc (.cells #[.pointer (some t)] 159)).alloc (.cells #[.pointer (some ⟨4, 159, none⟩), .pointer (some ⟨w.heap.size, 0, none⟩), .int .u64 150] 182)).alloc (.cells #[.pointer (some ⟨4, 159, none⟩), .pointer (some ⟨w.heap.size, 0, none⟩), .int .u64 150] 182)).alloc (.cells #[.int .i64 k] 96)).setCell t (.int .i64 k) := by
  have h6 := @run_callFunc_extern Tryz.prog 119 _ (fun args => ReflectliteValue.unpack (args.getD 0 (.tuple #[]))) Tryz.func119 (by kernel_rfl) (by kernel_rfl) (by kernel_rfl) (by kernel_rfl)
  have h7 := @run_callFunc_extern Tryz.prog 120 _ (ReflectliteValue.methodAny (ReflectliteValue.valueError "reflectlite.Value.Type" 0) (fun t _ _ _ => ReflectliteType.toType t)) Tryz.func120 (by kernel_rfl) (by kernel_rfl) (by kernel_rfl) (by kernel_rfl)
  have h8 := @run_callFunc_extern Tryz.prog 121 _ (ReflectliteValue.method (ReflectliteValue.valueError "reflectlite.Value.IsNil" 0) ReflectliteValue.isNil) Tryz.func121 (by kernel_rfl) (by kernel_rfl) (by kernel_rfl) (by kernel_rfl)
  have h27 := @run_callFunc_extern Tryz.prog 175 _ (ReflectliteType.abiMethod fun t => do pure (.int .u8 (← Rtype.kind t))) Tryz.func175 (by kernel_rfl) (by kernel_rfl) (by kernel_rfl) (by kernel_rfl)
  have h37 := @run_callFunc_extern Tryz.prog 185 _ (ReflectliteType.method ReflectliteType.elem) Tryz.func185 (by kernel_rfl) (by kernel_rfl) (by kernel_rfl) (by kernel_rfl)
  have h38 := @run_callFunc_extern Tryz.prog 186 _ (ReflectliteType.relation "Implements" ReflectliteType.implements_) Tryz.func186 (by kernel_rfl) (by kernel_rfl) (by kernel_rfl) (by kernel_rfl)
  have h10 := @run_callFunc_extern Tryz.prog 137 _ ReflectliteType.typeOf Tryz.func137 (by kernel_rfl) (by kernel_rfl) (by kernel_rfl) (by kernel_rfl)
  have h35 := @run_callFunc_extern Tryz.prog 183 _ (ReflectliteType.relation "AssignableTo" ReflectliteType.assignableTo) Tryz.func183 (by kernel_rfl) (by kernel_rfl) (by kernel_rfl) (by kernel_rfl)
  have h11 := @run_callFunc_extern Tryz.prog 138 _ (ReflectliteValue.method (ReflectliteValue.valueError "reflectlite.Value.Elem" 0) ReflectliteValue.elem) Tryz.func138 (by kernel_rfl) (by kernel_rfl) (by kernel_rfl) (by kernel_rfl)
  have h12 := @run_callFunc_extern Tryz.prog 139 _ ReflectliteValue.set Tryz.func139 (by kernel_rfl) (by kernel_rfl) (by kernel_rfl) (by kernel_rfl)
  have tO := typeOfE
  have mA := methodAssignableTo
  have a25 := assignableE
  have v25 := valueOfE
  have f6 := valueOfP
  have f7 := typeP
  have mK := methodKind
  have mE := methodElem
  have mI := methodImplements
  have k27 := kindP
  have k25 := kindE
  have e27 := elemP
  have i25 := implementsE
  have n8 := isNilP ⟨w.heap.size, 0, none⟩ t ((w.alloc (.cells #[.pointer (some t)] 159)).alloc (.cells #[.pointer (some ⟨4, 159, none⟩), .pointer (some ⟨w.heap.size, 0, none⟩), .int .u64 150] 182)) (by simp)
  have hlt := hg0.lt
  have hg : w.cell? ⟨0, 0, none⟩ = some (.iface 206 (.agg #[.pointer (some ⟨4, 33, none⟩)])) := hg0
  have hg2 : ((w.alloc (.cells #[.pointer (some t)] 159)).alloc (.cells #[.pointer (some ⟨4, 159, none⟩), .pointer (some ⟨w.heap.size, 0, none⟩), .int .u64 150] 182)).cell? ⟨0, 0, none⟩ = some (.iface 206 (.agg #[.pointer (some ⟨4, 33, none⟩)])) := by
    rw [World.cell?_alloc_lt _ _ ⟨0, 0, none⟩ (by first | (simp; done) | (simp; omega)), World.cell?_alloc_lt _ _ ⟨0, 0, none⟩ hlt]; exact hg
  have htl : t.block < w.heap.size := World.block_lt_of_cell? w t ht0
  have el := elemVP ⟨w.heap.size, 0, none⟩ t (((w.alloc (.cells #[.pointer (some t)] 159)).alloc (.cells #[.pointer (some ⟨4, 159, none⟩), .pointer (some ⟨w.heap.size, 0, none⟩), .int .u64 150] 182)).alloc (.cells #[.pointer (some ⟨4, 159, none⟩), .pointer (some ⟨w.heap.size, 0, none⟩), .int .u64 150] 182)) (by rw [World.cell?_alloc_lt _ _ ⟨w.heap.size, 0, none⟩ (by simp; omega)]; simp)
  have st := setE t ⟨w.heap.size + 1 + 1 + 1, 0, none⟩ k old ((((w.alloc (.cells #[.pointer (some t)] 159)).alloc (.cells #[.pointer (some ⟨4, 159, none⟩), .pointer (some ⟨w.heap.size, 0, none⟩), .int .u64 150] 182)).alloc (.cells #[.pointer (some ⟨4, 159, none⟩), .pointer (some ⟨w.heap.size, 0, none⟩), .int .u64 150] 182)).alloc (.cells #[.int .i64 k] 96))
    (by rw [World.cell?_alloc_at _ _ _ _ (by simp)]; rfl)
    (by rw [World.cell?_alloc_lt _ _ t (by simp; omega), World.cell?_alloc_lt _ _ t (by simp; omega), World.cell?_alloc_lt _ _ t (by simp; omega), World.cell?_alloc_lt _ _ t htl]; exact ht0)
    (by rw [World.frozen?_alloc_old _ _ t (by simp; omega), World.frozen?_alloc_old _ _ t (by simp; omega), World.frozen?_alloc_old _ _ t (by simp; omega), World.frozen?_alloc_old _ _ t (Nat.ne_of_lt htl)]; exact hf0)
  clear hg0 hg
  go_enter Tryz.func93, Tryz.ntmps93
  go_wp2
  refine wp_loop_rounds 1 ?_
  rw [rounds_succ]
  go_wp2
  go_ret
  exact ⟨rfl, rfl⟩

theorem told_nil (w : World) : Calls Tryz.prog 53 #[.nilIface] w fun e w' => e = .returned (.int .i64 0) ∧ w' = w := by
  go_enter Tryz.func53, Tryz.ntmps53
  go_wp2
  go_ret
  exact ⟨rfl, rfl⟩

set_option maxHeartbeats 1000000 in
theorem told_err (k : Int) (w : World) (hg : Handle w) : Calls Tryz.prog 53 #[.iface 96 (.int .i64 k)] w fun e w' => e = .returned (.int .i64 k) ∧ Below w.heap.size w w' := by
  have HG := hg
  have hgA : Handle (w.alloc (.cells #[.int .i64 0] 96)) := hg.below ((Below.refl _ _).alloc (Nat.le_refl _) _)
  clear hg
  go_enter Tryz.func53, Tryz.ntmps53
  go_wp2_with (fail)
  refine (as_hit k _ (.int .i64 0) _ hgA (by simp) (by simp)).mono ?_
  rintro e w' ⟨rfl, rfl⟩
  go_wp2
  go_ret
  exact ⟨rfl, by go_grown⟩

theorem same_nil (n : Int) (w : World) : Calls Tryz.prog 10 #[.nilIface, .int .i64 n] w fun e w' => e = .returned (.bool (0 == n)) ∧ w' = w := by
  go_enter Tryz.func10, Tryz.ntmps10
  go_wp2_with (go_at_call 53; refine (told_nil _).mono ?_; rintro e w' ⟨rfl, rfl⟩)
  go_ret
  exact ⟨rfl, rfl⟩
theorem same_err (k n : Int) (w : World) (hg : Handle w) : Calls Tryz.prog 10 #[.iface 96 (.int .i64 k), .int .i64 n] w fun e w' => e = .returned (.bool (k == n)) ∧ Below w.heap.size w w' := by
  go_enter Tryz.func10, Tryz.ntmps10
  go_wp2_with (go_at_call 53; refine (told_err _ _ hg).mono ?_; rintro e w' ⟨rfl, hb⟩)
  go_ret
  exact ⟨rfl, hb⟩
theorem same_any (v : Value) (k n : Int) (w : World) (h : M.IsErr 96 v k) (hg : Handle w) : Calls Tryz.prog 10 #[v, .int .i64 n] w fun e w' => e = .returned (.bool (k == n)) ∧ Below w.heap.size w w' := by
  rcases h with ⟨rfl, rfl⟩ | rfl
  · refine (same_nil n w).mono ?_
    rintro e w' ⟨he, rfl⟩
    exact ⟨he, Below.refl _ _⟩
  · exact same_err k n w hg
theorem same_is (k n : Int) (w : World) (e : k = n) (hg : Handle w) : Calls Tryz.prog 10 #[M.errV 96 k, .int .i64 n] w fun e w' => e = .returned (.bool true) ∧ Below w.heap.size w w' := by
  refine (same_any _ k n w (M.isErr_errV _ _) hg).mono ?_
  rintro ev w' ⟨he, hb⟩
  subst e
  exact ⟨by rw [he, beq_self_eq_true], hb⟩
end Go.Proofs.YtojdaifnljghkabGreatDoor.As
namespace Go.Proofs.YtojdaifnljghkabGreatDoor.Any
open Go.ChangeShapes Go.WideShapes Go.ChangeAt Go.RowKit
open Go.Proofs.YtojdaifnljghkabGreatDoor.M
set_option linter.unusedVariables false

/-- What is asked of a function value: at each number of the list, in whatever world that holds what w holds, it tells p, and leaves such a world. -/
def Tells (g : Nat) (lb : Array Value) (p : Int → Bool) (xs : List Int) (w : World) : Prop :=
  ∀ (W : World) (x : Int), x ∈ xs → Below w.heap.size w W → Calls Tryz.prog g (#[.int .i64 x] ++ lb) W fun e w' => e = .returned (.bool (p x)) ∧ Below w.heap.size w w'

set_option maxHeartbeats 2000000 in
theorem index_any (a : Option Addr) (xs : List Int) (n cap : Nat) (g : Nat) (lb : Array Value) (p : Int → Bool) (w : World) (hn : n = xs.length) (hl : n ≤ 1000000) (hr : Row w a xs)
    (eg : ∀ args w, (callFunc g args).run Tryz.prog w = .ok (.enter g args) w) (hp : Tells g lb p xs w) :
    Calls Tryz.prog 117 #[.slice a n cap, .func (.func g) #[] lb] w fun e w' => (∃ r : Int, e = .returned (.int .i64 r) ∧ decide (0 ≤ r) = xs.any p) ∧ Below w.heap.size w w' := by
  have HL : Hid (∀ k, k < n → ∃ x, xs[k]? = some x) := fun k hk => ⟨xs[k]'(by omega), List.getElem?_eq_getElem (by omega)⟩
  have HN := hide hn
  have HR := hide hr
  have HP := hide hp
  clear hn hr hp
  go_enter Tryz.func117, Tryz.ntmps117
  go_wp2
  go_loopw [5, 8] (fun _ i wr => ∃ k : Nat, k ≤ n ∧ i = .int .i64 k ∧ Hid (Below w.heap.size w wr) ∧ Hid (∀ (j : Nat) (x : Int), j < k → xs[j]? = some x → p x = false)) (fun _ i _ => n - (intOf i).toNat)
  case atStart => exact ⟨0, by omega, rfl, Below.refl _ _, fun j x h => by omega⟩
  case round =>
    obtain ⟨k, hk, rfl, HB, HA⟩ := hrel
    by_cases hlt : k < n
    · obtain ⟨x, hx⟩ := HL.out k hlt
      have HX := hide hx
      clear hx
      have hrow : ∃ b off, a = some ⟨b, off, none⟩ ∧ wr.cell? ⟨b, off + k, none⟩ = some (.int .i64 x) := by
        rcases HR.out.below HB.out with h | ⟨b, off, h1, h2⟩
        · have := HX.out; rw [h] at this; simp at this
        · exact ⟨b, off, h1, h2 k x HX.out⟩
      obtain ⟨b, off, rfl, hc⟩ := hrow
      have hcall := HP.out wr x (List.mem_of_getElem? HX.out) HB.out
      cases hq : p x with
      | true =>
        rw [hq] at hcall
        go_wp2_with (go_at_fn g; refine hcall.mono ?_; rintro e w' ⟨rfl, hb'⟩)
        go_ret
        refine ⟨⟨k, rfl, ?_⟩, hb'⟩
        rw [List.any_eq_true.2 ⟨x, List.mem_of_getElem? HX.out, hq⟩]
        simp
      | false =>
        rw [hq] at hcall
        go_wp2_with (go_at_fn g; refine hcall.mono ?_; rintro e w' ⟨rfl, hb'⟩)
        go_roundw
        case rel => exact ⟨k + 1, by omega, by go_num, hb', fun j y hj hy => by
          by_cases e : j = k
          · subst e; rw [HX.out] at hy; cases hy; exact hq
          · exact HA.out j y (by omega) hy⟩
        case measure => simp [intOf]; omega
    · go_wp2
      go_ret
      refine ⟨⟨-1, rfl, ?_⟩, HB.out⟩
      have h0 : xs.any p = false := by
        rw [List.any_eq_false]
        intro x hx
        obtain ⟨j, hj, e⟩ := List.mem_iff_getElem.1 hx
        rw [HA.out j x (by have := HN.out; omega) (by rw [List.getElem?_eq_getElem hj, e])]
        simp
      rw [h0]
      rfl

theorem contains_any (a : Option Addr) (xs : List Int) (n cap : Nat) (g : Nat) (lb : Array Value) (p : Int → Bool) (w : World) (hn : n = xs.length) (hl : n ≤ 1000000) (hr : Row w a xs)
    (eg : ∀ args w, (callFunc g args).run Tryz.prog w = .ok (.enter g args) w) (hp : Tells g lb p xs w) :
    Calls Tryz.prog 86 #[.slice a n cap, .func (.func g) #[] lb] w fun e w' => e = .returned (.bool (xs.any p)) ∧ Below w.heap.size w w' := by
  have C := hide (index_any a xs n cap g lb p w hn hl hr eg hp)
  clear hn hr hp
  go_enter Tryz.func86, Tryz.ntmps86
  go_wp2_with (fail)
  refine C.out.mono ?_
  rintro e w' ⟨⟨r, rfl, hr⟩, hb⟩
  have HR := hide hr
  clear hr
  go_wp2
  go_ret
  exact ⟨by rw [← HR.out]; rfl, hb⟩
end Go.Proofs.YtojdaifnljghkabGreatDoor.Any
namespace Go.Proofs.YtojdaifnljghkabGreatDoor.Bank
open Go.ChangeShapes Go.WideShapes Go.ChangeAt Go.RowKit
open Go.Proofs.YtojdaifnljghkabGreatDoor.M Go.Proofs.YtojdaifnljghkabGreatDoor.Measure
set_option linter.unusedVariables false

theorem bad_any (xs : List Int) (w : World) : Any.Tells 116 #[] (fun x => !isM x) xs w := by
  intro W x _ hb
  show Calls Tryz.prog 116 #[.int .i64 x] W _
  go_enter Tryz.func116, Tryz.ntmps116
  go_wp2_with (go_at_call 80; refine (is_any _ _).mono ?_; rintro e w' ⟨rfl, rfl⟩)
  go_ret
  exact ⟨by cases isM x <;> rfl, hb⟩

set_option maxHeartbeats 1000000 in
theorem check_any (xs : List Int) (c : Array Value) (w : World) (hc : c = bankC xs) (hl : xs.length = 8) :
    Calls Tryz.prog 83 #[.agg c] w fun e w' => e = .returned (errV 96 (bankE xs)) ∧ Below w.heap.size w w' := by
  have HC := hide hc
  have HL := hide hl
  have e11 : ∀ args w, (callFunc 116 args).run Tryz.prog w = .ok (.enter 116 args) w := enters_of Tryz.func116 (by kernel_rfl) rfl
  clear hc hl
  go_enter Tryz.func83, Tryz.ntmps83
  go_wp2_with (fail)
  refine (Any.contains_any _ xs 8 8 _ #[] _ _ (HL.out).symm (by omega) (bank_row (t := 67) (fr := (0, 0)) (by rw [← HC.out]; exact heap_alloc_new w _)) e11 (bad_any xs _)).mono ?_
  rintro e w1 ⟨rfl, hb⟩
  have HB := hide (((Below.refl _ w).alloc (Nat.le_refl _) (.cells c 67)).trans (hb.mono (by simp)))
  clear hb
  rw [any_bad]
  cases ho : okAll xs with
  | true =>
    have E := hide (bankE_ok ho)
    go_wp2
    go_ret
    exact ⟨by rw [E.out]; rfl, HB.out⟩
  | false =>
    have E := hide (bankE_bad ho)
    go_wp2
    go_ret
    exact ⟨by rw [E.out]; rfl, HB.out⟩

theorem isMask_any (n : Int) (w : World) :
    Calls Tryz.prog 84 #[.int .i64 n] w fun e w' => e = .returned (.bool (isMask n)) ∧ w' = w := by
  by_cases h0 : 0 ≤ n
  · by_cases h1 : n ≤ 255
    · rw [isMask_iff.2 ⟨h0, h1⟩]
      go_enter Tryz.func84, Tryz.ntmps84
      go_wp2
      go_ret
      exact ⟨rfl, rfl⟩
    · rw [isMask_false.2 (by omega)]
      go_enter Tryz.func84, Tryz.ntmps84
      go_wp2
      go_ret
      exact ⟨rfl, rfl⟩
  · rw [isMask_false.2 (by omega)]
    go_enter Tryz.func84, Tryz.ntmps84
    go_wp2
    go_ret
    exact ⟨rfl, rfl⟩

theorem isRegister_any (n : Int) (w : World) :
    Calls Tryz.prog 111 #[.int .i64 n] w fun e w' => e = .returned (.bool (isReg n)) ∧ w' = w := by
  by_cases h0 : 0 ≤ n
  · by_cases h1 : n < 8
    · rw [isReg_iff.2 ⟨h0, h1⟩]
      go_enter Tryz.func111, Tryz.ntmps111
      go_wp2
      go_ret
      exact ⟨rfl, rfl⟩
    · rw [isReg_false.2 (by omega)]
      go_enter Tryz.func111, Tryz.ntmps111
      go_wp2
      go_ret
      exact ⟨rfl, rfl⟩
  · rw [isReg_false.2 (by omega)]
    go_enter Tryz.func111, Tryz.ntmps111
    go_wp2
    go_ret
    exact ⟨rfl, rfl⟩

theorem info_int : (Tryz.prog.info? 3).map (fun i => (i.zero, i.size, i.bytes)) = some (some (.int .i64 0), 1, 8) := by kernel_rfl

set_option maxHeartbeats 2000000 in
theorem asked_any (m : Int) (w : World) (hm0 : 0 ≤ m) (hm1 : m ≤ 255) :
    Calls Tryz.prog 87 #[.int .i64 m] w fun e w' => ∃ v, e = .returned v ∧ Own w' w.heap.size 3 v (askedL m 8) ∧ Below w.heap.size w w' := by
  go_enter Tryz.func87, Tryz.ntmps87
  go_wp2
  go_loopw [2, 3, 4] (fun v _ i wr => ∃ k : Nat, k ≤ 8 ∧ i = .int .i64 k ∧ Hid (Own wr w.heap.size 3 v (askedL m k)) ∧ Hid (Below w.heap.size w wr)) (fun _ _ i _ => 8 - (intOf i).toNat)
  case atStart => exact ⟨0, by omega, rfl, Own.nil _ _ _, Below.refl _ _⟩
  case round =>
    obtain ⟨k, hk, rfl, HO, HB⟩ := hrel
    by_cases hlt : k < 8
    · have hsz := HB.out.size
      cases hbit : bit m k with
      | true =>
        have hand := bit_yes hbit
        go_wp2_with (at_builtin; refine wpList_app rfl _ _ 28 rfl w.heap.size 3 info_int Tryz.underlying28 _ (askedL m k) rfl (HO.out.alloc _) (some ⟨wr.heap.size, 0, none⟩) 1 1 [(k : Int)] rfl rfl (fun h => by cases h) (Row.one _ _ _ (by simp)) (by have := askedL_len m k; simp; omega) (by simp; omega) ?_; intro v' w1 ho hgr)
        go_roundw
        case rel => exact ⟨k + 1, by omega, by go_num, by rw [askedL_hit hbit]; exact ho, (HB.out.alloc hsz _).grown hgr (by simp; omega) (fun k hk => HO.out.block k hk)⟩
        case measure => simp [intOf]; omega
      | false =>
        have hand := bit_no hbit
        go_wp2
        go_roundw
        case rel => exact ⟨k + 1, by omega, by go_num, by rw [askedL_miss hbit]; exact HO, HB⟩
        case measure => simp [intOf]; omega
    · go_wp2
      go_ret
      have : k = 8 := by omega
      subst this
      exact ⟨_, rfl, HO.out, HB.out⟩
end Go.Proofs.YtojdaifnljghkabGreatDoor.Bank
namespace Go.Proofs.YtojdaifnljghkabGreatDoor.Bank
open Go.ChangeShapes Go.WideShapes Go.ChangeAt Go.RowKit
open Go.Proofs.YtojdaifnljghkabGreatDoor.M Go.Proofs.YtojdaifnljghkabGreatDoor.Measure
set_option linter.unusedVariables false

theorem info_bank : (Tryz.prog.info? 67).map (·.size) = some 8 := by kernel_rfl
/-- A bank out of its block. -/
theorem load_bank {w : World} {b : Nat} {c : Array Value} {fr : Nat × Nat} (h : w.heap[b]? = some (.cells c 67 fr)) (hs : c.size = 8) : (loadVar 67 ⟨b, 0, none⟩).run Tryz.prog w = .ok (.agg c) w :=
  run_loadVar_row w b _ _ c fr _ h Tryz.underlying67 rfl (by rw [info_bank, hs])

/-- The walk's step there: the whole bank out of the block that a slot points to. -/
theorem wpl_load {w : World} {ops : Array Oper} {rest : List Oper} {o : Oper} {a : Act} {Q : Exit → Act → World → Prop} (p : Nat) (hw : Region.wanted o (yielded ops a.tmps) = true) (ho : o.op = .load 67 (.tmp p)) (b : Nat)
    (hx : a.eval (.tmp p) = .pointer (some ⟨b, 0, none⟩)) (c : Array Value) (fr : Nat × Nat) (hg : w.heap[b]? = some (.cells c 67 fr)) (hs : c.size = 8) (h : wpList Tryz.prog ops Q rest (a.put o.dst (.agg c)) w) : wpList Tryz.prog ops Q (o :: rest) a w :=
  wpList_step fun K hK => by
    simp only [hw, if_true]
    exact wp_load_row _ (.tmp p) ho b hx _ c fr _ hg Tryz.underlying67 rfl (by rw [info_bank, hs]) (hK _ _ h)
theorem heap_below {w w' : World} {B b : Nat} {o : Obj} (h : w.heap[b]? = some o) (hb : Below B w w') (hlt : b < B) : w'.heap[b]? = some o := (hb.block b hlt).trans h

set_option maxHeartbeats 2000000 in
theorem digest_any (xs : List Int) (c : Array Value) (m : Int) (w : World) (hc : c = bankC xs) (hl : xs.length = 8) :
    Calls Tryz.prog 98 #[.agg c, .int .i64 m] w fun e w' => e = .returned (.tuple #[.int .i64 (digV xs m), errV 96 (digE xs m)]) ∧ Below w.heap.size w w' := by
  have HC := hide hc
  have HL := hide hl
  have HS := hide (show c.size = 8 by rw [hc, bankC_size, hl])
  have HG := hide (heap_alloc_new w (.cells c 67))
  clear hc hl
  go_enter Tryz.func98, Tryz.ntmps98
  go_wp2_with ((with_reducible refine wpl_load 2 ?_ ?_ _ ?_ _ _ HG.out HS.out ?_); rfl; rfl; rfl)
  refine (check_any xs c _ HC.out HL.out).mono ?_
  rintro e w1 ⟨rfl, hb1⟩
  have HB1 := hide (((Below.refl _ w).alloc (Nat.le_refl _) (.cells c 67)).trans (hb1.mono (by simp)))
  have HG1 := hide (heap_below HG.out hb1 (by simp))
  clear hb1 HG
  cases ho : okAll xs with
  | false =>
    have E := hide (digE_bad (xs := xs) (m := m) (fun h => by rw [ho] at h; exact Bool.false_ne_true h.1))
    have E' := hide (digV_bad (xs := xs) (m := m) (fun h => by rw [ho] at h; exact Bool.false_ne_true h.1))
    rw [bankE_bad ho, errV_one]
    go_wp2
    go_ret2
    exact ⟨by rw [E.out, E'.out]; rfl, HB1.out⟩
  | true =>
    have HO := hide ho
    rw [bankE_ok ho, errV_zero]
    clear ho
    go_wp2_with (fail)
    refine (isMask_any m _).mono ?_
    rintro e w2 ⟨rfl, rfl⟩
    cases hm : isMask m with
    | false =>
      have E := hide (digE_bad (xs := xs) (m := m) (fun h => by rw [hm] at h; exact Bool.false_ne_true h.2))
      have E' := hide (digV_bad (xs := xs) (m := m) (fun h => by rw [hm] at h; exact Bool.false_ne_true h.2))
      go_wp2
      go_ret2
      exact ⟨by rw [E.out, E'.out]; rfl, HB1.out⟩
    | true =>
      have E := hide (digE_ok HO.out hm)
      have E' := hide (digV_ok HO.out hm)
      have hm01 := isMask_iff.1 hm
      obtain ⟨hm0, hm1⟩ := hm01
      go_wp2_with (fail)
      refine (asked_any m _ hm0 hm1).mono ?_
      rintro e w3 ⟨v, rfl, hown, hb3⟩
      obtain ⟨a, cap, rfl, _, hrow⟩ := hown.row
      have HROW := hide hrow
      have HB3 := hide (HB1.out.trans (hb3.mono HB1.out.size))
      have HG3 := hide (heap_below HG1.out hb3 (heap_lt HG1.out))
      have HLEN := hide (askedL_len m 8)
      clear hrow hown hb3
      go_wp2
      go_loopw [7, 9, 22] (fun v _ i wr => ∃ k : Nat, k ≤ (askedL m 8).length ∧ i = .int .i64 k ∧ Hid (Own wr w3.heap.size 3 v (pick xs ((askedL m 8).take k))) ∧ Hid (Below w3.heap.size w3 wr)) (fun _ _ i _ => (askedL m 8).length - (intOf i).toNat)
      case atStart => exact ⟨0, by omega, rfl, Own.nil _ _ _, Below.refl _ _⟩
      case round =>
        obtain ⟨k, hk, rfl, HOW, HBR⟩ := hrel
        have hsz := HBR.out.size
        by_cases hlt : k < (askedL m 8).length
        · obtain ⟨i, hi⟩ : ∃ i, (askedL m 8)[k]? = some i := ⟨_, List.getElem?_eq_getElem hlt⟩
          obtain ⟨j, hj, rfl, _⟩ := askedL_mem (List.mem_of_getElem? hi)
          obtain ⟨y, hy⟩ : ∃ y, xs[j]? = some y := ⟨_, List.getElem?_eq_getElem (by have := HL.out; omega)⟩
          have HX := hide hi
          have HY := hide hy
          have HGR := hide (heap_below HG3.out HBR.out (heap_lt HG3.out))
          have hcb : wr.cell? ⟨w.heap.size, j, none⟩ = some (.int .i64 y) := bank_cell (xs := xs) (t := 67) (fr := (0, 0)) (by rw [← HC.out]; exact HGR.out) HY.out
          have hrow : ∃ b off, a = some ⟨b, off, none⟩ ∧ wr.cell? ⟨b, off + k, none⟩ = some (.int .i64 j) := by
            rcases HROW.out.below HBR.out with h | ⟨b, off, h1, h2⟩
            · have := HX.out; rw [h] at this; simp at this
            · exact ⟨b, off, h1, h2 k j HX.out⟩
          obtain ⟨b, off, rfl, hc⟩ := hrow
          clear hi hy
          have hlen : (askedL m 8).length ≤ 8 := HLEN.out
          go_wp2_with (at_builtin; refine wpList_app rfl _ _ 28 rfl w3.heap.size 3 info_int Tryz.underlying28 _ (pick xs ((askedL m 8).take k)) rfl (HOW.out.alloc _) (some ⟨wr.heap.size, 0, none⟩) 1 1 [y] rfl rfl (fun h => by cases h) (Row.one _ _ _ (by simp)) (by rw [pick_len]; simp; omega) (by simp; omega) ?_; intro v' w5 ho hgr)
          go_roundw
          case rel => exact ⟨k + 1, by omega, by go_num, by rw [pick_take HX.out (by simpa using HY.out)]; exact ho, (HBR.out.alloc hsz _).grown hgr (by simp; omega) (fun k hk => HOW.out.block k hk)⟩
          case measure => simp [intOf]; omega
        · have htk : (askedL m 8).take k = askedL m 8 := List.take_of_length_le (by omega)
          obtain ⟨a7, cap7, rfl, _, hrow7⟩ := HOW.out.row
          rw [htk] at hrow7 ⊢
          have HR7 := hide hrow7
          have HB7 := hide (HB3.out.trans (HBR.out.mono HB3.out.size))
          clear hrow7 htk
          go_wp2_with (fail)
          refine (all_ok _ (pick xs (askedL m 8)) _ _ _ rfl (by rw [pick_len]; have := HLEN.out; omega) HR7.out (pick_ok HO.out HL.out m)).mono ?_
          rintro e w8 ⟨rfl, rfl⟩
          go_wp2
          go_ret2
          exact ⟨by rw [E.out, E'.out]; rfl, HB7.out⟩

/-- Do two banks differ at a register? Both lie in blocks of the caller's. -/
theorem differs_any (xs ys is : List Int) (A B : Nat) (w : World) (hA : w.heap[A]? = some (.cells (bankC xs) 67)) (hB : w.heap[B]? = some (.cells (bankC ys) 67)) (hx : xs.length = 8) (hy : ys.length = 8)
    (his : ∀ i ∈ is, ∃ k : Nat, k < 8 ∧ i = k) :
    Any.Tells 85 #[.pointer (some ⟨A, 0, none⟩), .pointer (some ⟨B, 0, none⟩)] (fun i => xs.getD i.toNat 0 != ys.getD i.toNat 0) is w := by
  intro W i hi hb
  obtain ⟨k, hk, rfl⟩ := his i hi
  obtain ⟨x, hx'⟩ : ∃ x, xs[k]? = some x := ⟨_, List.getElem?_eq_getElem (by omega)⟩
  obtain ⟨y, hy'⟩ : ∃ y, ys[k]? = some y := ⟨_, List.getElem?_eq_getElem (by omega)⟩
  have h1 : W.cell? ⟨A, k, none⟩ = some (.int .i64 x) := bank_cell (heap_below hA hb (heap_lt hA)) hx'
  have h2 : W.cell? ⟨B, k, none⟩ = some (.int .i64 y) := bank_cell (heap_below hB hb (heap_lt hB)) hy'
  have e : (xs.getD (k : Int).toNat 0 != ys.getD (k : Int).toNat 0) = (x != y) := by simp [hx', hy']
  have HB := hide hb
  show Calls Tryz.prog 85 #[.int .i64 k, .pointer (some ⟨A, 0, none⟩), .pointer (some ⟨B, 0, none⟩)] W fun e w' => e = .returned (.bool (xs.getD (k : Int).toNat 0 != ys.getD (k : Int).toNat 0)) ∧ Below w.heap.size w w'
  rw [e]
  clear hx hy hx' hy' hA hB his hi e hb
  go_enter Tryz.func85, Tryz.ntmps85
  go_wp2
  go_region
  all_goals (try go_wp2)
  all_goals go_ret
  all_goals exact ⟨rfl, HB.out.drew⟩

set_option maxHeartbeats 2000000 in
theorem same_any (xs ys : List Int) (c d : Array Value) (m : Int) (w : World) (hc : c = bankC xs) (hd : d = bankC ys) (hx : xs.length = 8) (hy : ys.length = 8) :
    Calls Tryz.prog 42 #[.agg c, .agg d, .int .i64 m] w fun e w' => e = .returned (.tuple #[.bool (sameV xs ys m), errV 96 (sameE xs ys m)]) ∧ Below w.heap.size w w' := by
  have HC := hide hc
  have HD := hide hd
  have HX := hide hx
  have HY := hide hy
  have HSC := hide (show c.size = 8 by rw [hc, bankC_size, hx])
  have HSD := hide (show d.size = 8 by rw [hd, bankC_size, hy])
  have HG := hide (heap_alloc2_old w (.cells c 67) (.cells d 67))
  have HK := hide (heap_alloc2_new w (.cells c 67) (.cells d 67))
  have HB0 := hide (((Below.refl _ w).alloc (Nat.le_refl _) (.cells c 67)).alloc (by simp) (.cells d 67))
  have e8 : ∀ args w, (callFunc 85 args).run Tryz.prog w = .ok (.enter 85 args) w := enters_of Tryz.func85 (by kernel_rfl) rfl
  clear hc hd hx hy
  go_enter Tryz.func42, Tryz.ntmps42
  go_wp2_with ((with_reducible refine wpl_load 3 ?_ ?_ _ ?_ _ _ HG.out HSC.out ?_); rfl; rfl; rfl)
  refine (check_any xs c _ HC.out HX.out).mono ?_
  rintro e w1 ⟨rfl, hb1⟩
  have HB1 := hide (HB0.out.trans (hb1.mono (by simp; omega)))
  have HG1 := hide (heap_below HG.out hb1 (heap_lt HG.out))
  have HK1 := hide (heap_below HK.out hb1 (heap_lt HK.out))
  clear hb1 HG HK HB0
  cases ho : okAll xs with
  | false =>
    have E := hide (sameE_bad (xs := xs) (ys := ys) (m := m) (fun h => by rw [ho] at h; exact Bool.false_ne_true h.1))
    have E' := hide (sameV_bad (xs := xs) (ys := ys) (m := m) (fun h => by rw [ho] at h; exact Bool.false_ne_true h.1))
    rw [bankE_bad ho, errV_one]
    go_wp2
    go_ret2
    exact ⟨by rw [E.out, E'.out]; rfl, HB1.out⟩
  | true =>
    have HO := hide ho
    rw [bankE_ok ho, errV_zero]
    clear ho
    go_wp2_with ((with_reducible refine wpl_load 4 ?_ ?_ _ ?_ _ _ HK1.out HSD.out ?_); rfl; rfl; rfl)
    refine (check_any ys d _ HD.out HY.out).mono ?_
    rintro e w2 ⟨rfl, hb2⟩
    have HB2 := hide (HB1.out.trans (hb2.mono HB1.out.size))
    have HG2 := hide (heap_below HG1.out hb2 (heap_lt HG1.out))
    have HK2 := hide (heap_below HK1.out hb2 (heap_lt HK1.out))
    clear hb2 HG1 HK1 HB1
    cases ho' : okAll ys with
    | false =>
      have E := hide (sameE_bad (xs := xs) (ys := ys) (m := m) (fun h => by rw [ho'] at h; exact Bool.false_ne_true h.2.1))
      have E' := hide (sameV_bad (xs := xs) (ys := ys) (m := m) (fun h => by rw [ho'] at h; exact Bool.false_ne_true h.2.1))
      rw [bankE_bad ho', errV_one]
      go_wp2
      go_ret2
      exact ⟨by rw [E.out, E'.out]; rfl, HB2.out⟩
    | true =>
      have HO' := hide ho'
      rw [bankE_ok ho', errV_zero]
      clear ho'
      go_wp2_with (fail)
      refine (isMask_any m _).mono ?_
      rintro e w3 ⟨rfl, rfl⟩
      cases hm : isMask m with
      | false =>
        have E := hide (sameE_bad (xs := xs) (ys := ys) (m := m) (fun h => by rw [hm] at h; exact Bool.false_ne_true h.2.2))
        have E' := hide (sameV_bad (xs := xs) (ys := ys) (m := m) (fun h => by rw [hm] at h; exact Bool.false_ne_true h.2.2))
        go_wp2
        go_ret2
        exact ⟨by rw [E.out, E'.out]; rfl, HB2.out⟩
      | true =>
        have E := hide (sameE_ok HO.out HO'.out hm)
        have E' := hide (sameV_ok HO.out HO'.out hm)
        have hm01 := isMask_iff.1 hm
        obtain ⟨hm0, hm1⟩ := hm01
        go_wp2_with (fail)
        refine (asked_any m _ hm0 hm1).mono ?_
        rintro e w4 ⟨v, rfl, hown, hb4⟩
        obtain ⟨a, cap, rfl, _, hrow⟩ := hown.row
        have HROW := hide hrow
        have HB4 := hide (HB2.out.trans (hb4.mono HB2.out.size))
        have HG4 := hide (heap_below HG2.out hb4 (heap_lt HG2.out))
        have HK4 := hide (heap_below HK2.out hb4 (heap_lt HK2.out))
        clear hrow hown hb4
        go_wp2_with (fail)
        refine (Any.contains_any a (askedL m 8) _ cap _ _ _ _ rfl (by have := askedL_len m 8; omega) HROW.out e8 (differs_any xs ys (askedL m 8) w.heap.size (w.heap.size + 1) _ (by rw [← HC.out]; exact HG4.out) (by rw [← HD.out]; exact HK4.out) HX.out HY.out (fun i hi => by obtain ⟨k, hk, e, _⟩ := askedL_mem hi; exact ⟨k, hk, e⟩))).mono ?_
        rintro e w5 ⟨rfl, hb5⟩
        have HB5 := hide (HB4.out.trans (hb5.mono HB4.out.size))
        clear hb5
        go_wp2
        go_ret2
        exact ⟨by rw [E.out, E'.out]; rfl, HB5.out⟩
end Go.Proofs.YtojdaifnljghkabGreatDoor.Bank
namespace Go.Proofs.YtojdaifnljghkabGreatDoor.Bank
open Go.ChangeShapes Go.WideShapes Go.ChangeAt Go.RowKit
open Go.Proofs.YtojdaifnljghkabGreatDoor.M Go.Proofs.YtojdaifnljghkabGreatDoor.Measure
set_option linter.unusedVariables false

theorem bankC_one (xs : List Int) : (bankC xs).all (·.oneCell') = true := by
  rw [Array.all_eq_true_iff_forall_mem]
  intro v hv
  simp only [bankC, List.mem_toArray, List.mem_map] at hv
  obtain ⟨_, _, rfl⟩ := hv
  rfl
/-- The walk's step where a whole bank is stored into the block that a slot points to. -/
theorem wpl_store {w : World} {ops : Array Oper} {rest : List Oper} {o : Oper} {a : Act} {Q : Exit → Act → World → Prop} (p q : Nat) (hw : Region.wanted o (yielded ops a.tmps) = true) (ho : o.op = .store 67 (.tmp p) (.tmp q)) (b : Nat)
    (hx : a.eval (.tmp p) = .pointer (some ⟨b, 0, none⟩)) (c d : Array Value) (hv : a.eval (.tmp q) = .agg d) (hg : w.heap[b]? = some (.cells c 67)) (hs : c.size = 8) (hs' : d.size = 8) (h1 : d.all (·.oneCell') = true)
    (h : wpList Tryz.prog ops Q rest (a.put o.dst undef) (w.setRow b d)) : wpList Tryz.prog ops Q (o :: rest) a w :=
  wpList_step fun K hK => by
    simp only [hw, if_true]
    unfold Oper.wp execOp
    simp only [ho, hx, hv, Instr.storeAt, Instr.sureAddr, Sem.run_bind, Sem.run_pure, Result.andThen_ok, run_storeVar_row w b _ _ c d hg (by rw [info_bank, hs']) (by rw [hs, hs']) h1]
    exact hK _ _ h
theorem results_bank {fn : Func} {p u : Tmp} (h : fn.results = #[.cell p 67, .tmp u]) (tmps : Array Value) (w : World) (b : Nat) (c : Array Value) (v : Value) (hp : tmps.getD p undef = .pointer (some ⟨b, 0, none⟩)) (hu : tmps.getD u undef = v)
    (hg : w.heap[b]? = some (.cells c 67)) (hs : c.size = 8) : (results fn tmps).run Tryz.prog w = .ok (.tuple #[.agg c, v]) w := by
  rw [results_cell_tmp h, hp, hu]
  simp [asAddr, load_bank hg hs, Result.andThen]
theorem noBank_cells : bankC noBank = #[.int .i64 0, .int .i64 0, .int .i64 0, .int .i64 0, .int .i64 0, .int .i64 0, .int .i64 0, .int .i64 0] := rfl
theorem noBank_size : (#[.int .i64 0, .int .i64 0, .int .i64 0, .int .i64 0, .int .i64 0, .int .i64 0, .int .i64 0, .int .i64 0] : Array Value).size = 8 := rfl
theorem noBank_one : (#[.int .i64 0, .int .i64 0, .int .i64 0, .int .i64 0, .int .i64 0, .int .i64 0, .int .i64 0, .int .i64 0] : Array Value).all (·.oneCell') = true := bankC_one noBank

set_option maxHeartbeats 4000000 in
theorem extend_any (xs : List Int) (c : Array Value) (i m : Int) (w : World) (hc : c = bankC xs) (hl : xs.length = 8) :
    Calls Tryz.prog 79 #[.agg c, .int .i64 i, .int .i64 m] w fun e w' => e = .returned (.tuple #[.agg (bankC (extV xs i m)), errV 96 (extE xs i m)]) ∧ Below w.heap.size w w' := by
  have HC := hide hc
  have HL := hide hl
  have HS := hide (show c.size = 8 by rw [hc, bankC_size, hl])
  have HG := hide (heap_alloc2_old w (.cells c 67) (.cells #[.int .i64 0, .int .i64 0, .int .i64 0, .int .i64 0, .int .i64 0, .int .i64 0, .int .i64 0, .int .i64 0] 67))
  have HK := hide (heap_alloc2_new w (.cells c 67) (.cells #[.int .i64 0, .int .i64 0, .int .i64 0, .int .i64 0, .int .i64 0, .int .i64 0, .int .i64 0, .int .i64 0] 67))
  have HB0 := hide (((Below.refl _ w).alloc (Nat.le_refl _) (.cells c 67)).alloc (by simp) (.cells #[.int .i64 0, .int .i64 0, .int .i64 0, .int .i64 0, .int .i64 0, .int .i64 0, .int .i64 0, .int .i64 0] 67))
  clear hc hl
  go_enter Tryz.func79, Tryz.ntmps79
  go_wp2_with ((with_reducible refine wpl_load 3 ?_ ?_ _ ?_ _ _ HG.out HS.out ?_); rfl; rfl; rfl)
  refine (check_any xs c _ HC.out HL.out).mono ?_
  rintro e w1 ⟨rfl, hb1⟩
  have HB1 := hide (HB0.out.trans (hb1.mono (by simp; omega)))
  have HG1 := hide (heap_below HG.out hb1 (heap_lt HG.out))
  have HK1 := hide (heap_below HK.out hb1 (heap_lt HK.out))
  clear hb1 HG HK HB0
  cases ho : okAll xs with
  | false =>
    have hx : extOk xs i m = false := by unfold extOk; rw [ho]; rfl
    have E := hide (extE_bad hx)
    have E' := hide (extV_bad hx)
    rw [bankE_bad ho, errV_one]
    clear ho hx
    go_wp2_with ((with_reducible refine wpl_store 6 15 ?_ ?_ _ ?_ _ _ ?_ HK1.out noBank_size noBank_size noBank_one ?_); rfl; rfl; rfl; rfl)
    refine bodyPost_ret (v := .tuple #[.agg #[.int .i64 0, .int .i64 0, .int .i64 0, .int .i64 0, .int .i64 0, .int .i64 0, .int .i64 0, .int .i64 0], .iface 96 (.int .i64 1)]) ?_ rfl ⟨?_, ?_⟩
    · exact results_bank (p := 6) (u := 7) rfl _ _ (w.heap.size + 1) _ _ rfl rfl (setRow_heap _ _ _ _ _ _ HK1.out) noBank_size
    · rw [E.out, E'.out]; rfl
    · exact below_setRow HB1.out (by omega) _
  | true =>
    rw [bankE_ok ho, errV_zero]
    go_wp2_with (fail)
    refine (isRegister_any i _).mono ?_
    rintro e w1 ⟨rfl, rfl⟩
    cases hr : isReg i with
    | false =>
      have hx : extOk xs i m = false := by unfold extOk; rw [hr, ho]; rfl
      have E := hide (extE_bad hx)
      have E' := hide (extV_bad hx)
      clear ho hx hr
      go_wp2_with ((with_reducible refine wpl_store 6 20 ?_ ?_ _ ?_ _ _ ?_ HK1.out noBank_size noBank_size noBank_one ?_); rfl; rfl; rfl; rfl)
      refine bodyPost_ret (v := .tuple #[.agg #[.int .i64 0, .int .i64 0, .int .i64 0, .int .i64 0, .int .i64 0, .int .i64 0, .int .i64 0, .int .i64 0], .iface 96 (.int .i64 1)]) ?_ rfl ⟨?_, ?_⟩
      · exact results_bank (p := 6) (u := 7) rfl _ _ (w.heap.size + 1) _ _ rfl rfl (setRow_heap _ _ _ _ _ _ HK1.out) noBank_size
      · rw [E.out, E'.out]; rfl
      · exact below_setRow HB1.out (by omega) _
    | true =>
      have hir := isReg_iff.1 hr
      obtain ⟨hi0, hi8⟩ := hir
      obtain ⟨k, rfl⟩ : ∃ k : Nat, i = k := ⟨i.toNat, by omega⟩
      have hk8 : k < 8 := by omega
      obtain ⟨x, hx⟩ : ∃ x, xs[k]? = some x := ⟨_, List.getElem?_eq_getElem (by have := HL.out; omega)⟩
      have hmx : isM x = true := okAll_at ho hx
      have hcell : w1.cell? ⟨w.heap.size, k, none⟩ = some (.int .i64 x) := bank_cell (xs := xs) (t := 67) (fr := (0, 0)) (by rw [← HC.out]; exact HG1.out) hx
      have hfr : w1.frozen? ⟨w.heap.size, k, none⟩ = false := by simp [World.frozen?, HG1.out]
      have HX := hide hx
      cases hm : isM m with
      | false =>
        have hxx : extOk xs k m = false := by unfold extOk; rw [hr, ho, hm]; rfl
        have E := hide (extE_bad hxx)
        have E' := hide (extV_bad hxx)
        have HM := hide hm
        clear ho hxx hr hm hx hmx
        go_wp2_with (fail)
        refine (two_bad x m _ (Or.inr HM.out)).mono ?_
        rintro e w2 ⟨rfl, rfl⟩
        go_wp2_with ((with_reducible refine wpl_store 6 32 ?_ ?_ _ ?_ _ _ ?_ HK1.out noBank_size noBank_size noBank_one ?_); rfl; rfl; rfl; rfl)
        refine bodyPost_ret (v := .tuple #[.agg #[.int .i64 0, .int .i64 0, .int .i64 0, .int .i64 0, .int .i64 0, .int .i64 0, .int .i64 0, .int .i64 0], .iface 96 (.int .i64 1)]) ?_ rfl ⟨?_, ?_⟩
        · exact results_bank (p := 6) (u := 7) rfl _ _ (w.heap.size + 1) _ _ rfl rfl (setRow_heap _ _ _ _ _ _ HK1.out) noBank_size
        · rw [E.out, E'.out]; rfl
        · exact below_setRow HB1.out (by omega) _
      | true =>
        have hxx : extOk xs k m = true := extOk_iff.2 ⟨ho, hr, hm⟩
        have E := hide (extE_ok hxx)
        have E' := hide (extV_ok hxx)
        have HM := hide hm
        have HMX := hide hmx
        clear ho hxx hr hm hx hmx
        have HV := hide (show bankC (xs.set (k : Int).toNat (stp 7919 (xs.getD (k : Int).toNat 0) m)) = c.setIfInBounds k (.int .i64 (stp 7919 x m)) by
          rw [HC.out, bankC_set, Int.toNat_natCast, List.getD_eq_getElem?_getD, HX.out]; rfl)
        have HG2 := hide (heap_setCell_same w1 w.heap.size k c 67 (.int .i64 (stp 7919 x m)) HG1.out)
        have HK2 := hide ((heap_setCell_other w1 ⟨w.heap.size, k, none⟩ (w.heap.size + 1) (.int .i64 (stp 7919 x m)) (by simp)).trans HK1.out)
        have HS2 := hide (show (c.setIfInBounds k (.int .i64 (stp 7919 x m))).size = 8 by rw [Array.size_setIfInBounds]; exact HS.out)
        have HB2 := hide (HB1.out.setCell (p := ⟨w.heap.size, k, none⟩) (Nat.le_refl _) (.int .i64 (stp 7919 x m)))
        have HO2 := hide (show (c.setIfInBounds k (.int .i64 (stp 7919 x m))).all (·.oneCell') = true by rw [← HV.out]; exact bankC_one _)
        go_wp2_with (fail)
        refine (two_ok x m _ HMX.out HM.out).mono ?_
        rintro e w2 ⟨rfl, rfl⟩
        go_wp2_with (first | ((with_reducible refine wpl_load 3 ?_ ?_ _ ?_ _ _ HG2.out HS2.out ?_); rfl; rfl; rfl) | ((with_reducible refine wpl_store 6 37 ?_ ?_ _ ?_ _ _ ?_ HK2.out noBank_size HS2.out HO2.out ?_); rfl; rfl; rfl; rfl))
        refine bodyPost_ret (v := .tuple #[.agg (c.setIfInBounds k (.int .i64 (stp 7919 x m))), .nilIface]) ?_ rfl ⟨?_, ?_⟩
        · exact results_bank (p := 6) (u := 7) rfl _ _ (w.heap.size + 1) _ _ rfl rfl (setRow_heap _ _ _ _ _ _ HK2.out) HS2.out
        · rw [E.out, E'.out, HV.out]; rfl
        · exact below_setRow HB2.out (by omega) _
end Go.Proofs.YtojdaifnljghkabGreatDoor.Bank
namespace Go.Proofs.YtojdaifnljghkabGreatDoor.M

theorem all_eq {xs ys : List Int} (hx : xs.length = 8) (hy : ys.length = 8) : ((List.range 8).all fun i => xs.getD i 0 == ys.getD i 0) = decide (xs = ys) := by
  by_cases h : xs = ys
  · subst h; simp
  · rw [decide_eq_false h, Bool.eq_false_iff]
    intro hall
    apply h
    rw [List.all_eq_true] at hall
    apply List.ext_getElem?
    intro i
    by_cases hi : i < 8
    · have := hall i (List.mem_range.2 hi)
      have e1 : xs[i]? = some (xs[i]'(by omega)) := List.getElem?_eq_getElem (by omega)
      have e2 : ys[i]? = some (ys[i]'(by omega)) := List.getElem?_eq_getElem (by omega)
      simp only [List.getD_eq_getElem?_getD, e1, e2, Option.getD_some, beq_iff_eq] at this
      rw [e1, e2, this]
    · rw [List.getElem?_eq_none (by omega), List.getElem?_eq_none (by omega)]
theorem asked_all : askedL 255 8 = [0, 1, 2, 3, 4, 5, 6, 7] := by decide
theorem mask_all : isMask 255 = true := by decide
theorem differ_all {xs ys : List Int} (hx : xs.length = 8) (hy : ys.length = 8) : (!differ xs ys 255) = decide (xs = ys) := by
  rw [← all_eq hx hy]
  unfold differ
  rw [asked_all]
  simp [List.range, List.range.loop, bne, Bool.not_or]
theorem differ_self (xs : List Int) (m : Int) : differ xs xs m = false := by
  unfold differ
  rw [List.any_eq_false]
  intro i _
  simp
theorem pick_same {xs ys : List Int} {m : Int} (h : differ xs ys m = false) : pick xs (askedL m 8) = pick ys (askedL m 8) := by
  unfold differ at h
  rw [List.any_eq_false] at h
  unfold pick
  apply List.map_congr_left
  intro i hi
  have := h i hi
  simpa using this
theorem extV_eq {xs : List Int} {i m k : Int} (hl : xs.length = 8) (h1 : extOk xs i m = true) (h2 : extOk xs i k = true) : decide (extV xs i m = extV xs i k) = (m == k) := by
  obtain ⟨ho, hr, hm⟩ := extOk_iff.1 h1
  obtain ⟨_, _, hk⟩ := extOk_iff.1 h2
  have hr' := isReg_iff.1 hr
  by_cases e : m = k
  · subst e; simp
  · rw [beq_false_of_ne e]
    apply decide_eq_false
    rw [extV_ok h1, extV_ok h2]
    intro he
    apply e
    have := congrArg (fun l => l[i.toNat]?) he
    simp only [List.getElem?_set_self (show i.toNat < xs.length by omega), Option.some.injEq] at this
    exact stp_inj _ _ _ _ (isM_iff.1 hm).1 (isM_iff.1 hm).2 (isM_iff.1 hk).1 (isM_iff.1 hk).2 this
theorem extV_other {xs : List Int} {i m : Int} {k : Nat} (h1 : extOk xs i m = true) (hk : (k : Int) ≠ i) : (extV xs i m)[k]? = xs[k]? := by
  obtain ⟨ho, hr, hm⟩ := extOk_iff.1 h1
  have hr' := isReg_iff.1 hr
  rw [extV_ok h1, List.getElem?_set_ne (by omega)]
theorem heap_keep {w : World} {b : Nat} {o : Obj} (h : w.heap[b]? = some o) (o' : Obj) : (w.alloc o').heap[b]? = some o := (Go.RowKit.Below.heap_alloc w o' b (heap_lt h)).trans h
end Go.Proofs.YtojdaifnljghkabGreatDoor.M

namespace Go.Proofs.YtojdaifnljghkabGreatDoor.Bank
open Go.ChangeShapes Go.WideShapes Go.ChangeAt Go.RowKit
open Go.Proofs.YtojdaifnljghkabGreatDoor.M Go.Proofs.YtojdaifnljghkabGreatDoor.Measure
set_option linter.unusedVariables false

theorem part_bank {xs : List Int} {k : Nat} {x : Int} (h : xs[k]? = some x) (w : World) : (part 3 (bankC xs) k).run Tryz.prog w = .ok (.int .i64 x) w := by
  simp [part, isAgg, run_underlying Tryz.underlying3, bankC_at h]
theorem eqItems_bank (xs ys : List Int) (hx : xs.length = 8) (hy : ys.length = 8) (d : Nat) (w : World) : ∀ is : List Nat, (∀ i ∈ is, i < 8) →
    (Op.eqItems (d + 1) 3 1 (bankC xs) (bankC ys) is).run Tryz.prog w = .ok (is.all fun i => xs.getD i 0 == ys.getD i 0) w
  | [], _ => by simp [Op.eqItems]
  | i :: is, h => by
    have hi := h i (List.mem_cons_self ..)
    have e1 : xs[i]? = some (xs[i]'(by omega)) := List.getElem?_eq_getElem (by omega)
    have e2 : ys[i]? = some (ys[i]'(by omega)) := List.getElem?_eq_getElem (by omega)
    have ih := eqItems_bank xs ys hx hy d w is (fun j hj => h j (List.mem_cons_of_mem _ hj))
    simp only [Op.eqItems, Sem.run_bind, Nat.mul_one, part_bank e1, part_bank e2, Result.andThen_ok, run_equalIn_int w d 3 .i64 .i64 _ _ Tryz.underlying3]
    simp only [List.all_cons, List.getD_eq_getElem?_getD, e1, e2, Option.getD_some]
    cases hq : (xs[i]'(by omega) == ys[i]'(by omega)) with
    | true => simpa [List.getD_eq_getElem?_getD] using ih
    | false => simp
theorem eq_bank {xs ys : List Int} (hx : xs.length = 8) (hy : ys.length = 8) (w : World) :
    (Op.equalIn 10000 67 (.agg (bankC xs)) (.agg (bankC ys))).run Tryz.prog w = .ok (decide (xs = ys)) w := by
  obtain ⟨i, hi, _⟩ := info_parts info_int
  have hc : Tryz.prog.cellsOf 3 = 1 := by kernel_rfl
  rw [run_equalIn_array w 9999 _ _ Tryz.underlying67 hi, hc, eqItems_bank xs ys hx hy 9998 w _ (fun i hi => List.mem_range.1 hi), all_eq hx hy]

/-- The walk's step where a whole bank is stored into the block that was laid last. -/
theorem wpl_store_new {w : World} {ops : Array Oper} {rest : List Oper} {o : Oper} {a : Act} {Q : Exit → Act → World → Prop} (p q : Nat) (c d : Array Value) (hw : Region.wanted o (yielded ops a.tmps) = true) (ho : o.op = .store 67 (.tmp p) (.tmp q))
    (hx : a.eval (.tmp p) = .pointer (some ⟨w.heap.size, 0, none⟩)) (hv : a.eval (.tmp q) = .agg d) (hs : c.size = 8) (hs' : d.size = 8) (h1 : d.all (·.oneCell') = true)
    (h : wpList Tryz.prog ops Q rest (a.put o.dst undef) (w.alloc (.cells d 67))) : wpList Tryz.prog ops Q (o :: rest) a (w.alloc (.cells c 67)) :=
  wpl_store p q hw ho _ hx c d hv (heap_alloc_new w _) hs hs' h1 (by rw [World.setRow_alloc_new]; exact h)
end Go.Proofs.YtojdaifnljghkabGreatDoor.Bank
namespace Go.Proofs.YtojdaifnljghkabGreatDoor.M
set_option linter.unusedVariables false

def oneF (nm : ByteArray) (m : Int) : ByteArray → Int := fun s => if s = nm then m else 0
def oneK (m : Int) : Nat := if m = 0 then 0 else 1
def valV (v : Int) : Int := if 0 ≤ v ∧ v ≤ 1000 then v else 0
def stepM (m v : Int) : Int := max m (valV v)
theorem oneF_zero (nm : ByteArray) : oneF nm 0 = fun _ => 0 := by funext s; unfold oneF; split <;> rfl
theorem oneF_at (nm : ByteArray) (m : Int) : oneF nm m nm = m := if_pos rfl
theorem oneF_upd (nm : ByteArray) (m v : Int) : updF (oneF nm m) nm v = oneF nm v := by
  funext s
  unfold updF oneF
  by_cases e : s = nm
  · rw [if_pos e, if_pos e]
  · rw [if_neg e, if_neg e, if_neg e]
theorem stepM_ge {m v : Int} (h : 0 ≤ m) : 0 ≤ stepM m v ∧ m ≤ stepM m v := by unfold stepM; omega
theorem stepM_eq {m v : Int} (h : 0 ≤ m) : stepM m v = if 0 ≤ v ∧ v ≤ 1000 ∧ m < v then v else m := by
  unfold stepM valV
  split <;> split <;> omega
theorem raise_one {nm : ByteArray} {m v : Int} (hn : nameB nm = true) (hm : 0 ≤ m) :
    raiB (oneF nm m) (oneK m) nm v = decide (m < stepM m v) ∧ raiE (oneF nm m) (oneK m) nm v = (if 0 ≤ v ∧ v ≤ 1000 then 0 else 1) ∧ raiF (oneF nm m) (oneK m) nm v = oneF nm (stepM m v) ∧ raiK (oneF nm m) (oneK m) nm v = oneK (stepM m v) := by
  have hk : ¬ (oneF nm m nm = 0 ∧ 12 ≤ oneK m) := by unfold oneK; split <;> omega
  have hat := oneF_at nm m
  have hs := stepM_eq (v := v) hm
  by_cases hc : 0 ≤ v ∧ v ≤ 1000 ∧ m < v
  · rw [if_pos hc] at hs
    have hb : raiB (oneF nm m) (oneK m) nm v = true := raiB_iff.2 ⟨hn, ⟨hc.1, hc.2.1⟩, by rw [hat]; exact hc.2.2, hk⟩
    refine ⟨by rw [hb, hs]; exact (decide_eq_true hc.2.2).symm, by rw [raiE_rise hb, if_pos ⟨hc.1, hc.2.1⟩], by rw [raiF_yes hb, oneF_upd, hs], ?_⟩
    unfold raiK
    rw [if_pos hb, hat, hs]
    unfold oneK
    rw [if_neg (show ¬ v = 0 by omega)]
    split <;> rfl
  · rw [if_neg hc] at hs
    have hb : ¬ raiB (oneF nm m) (oneK m) nm v = true := fun hb => hc (by obtain ⟨_, h2, h3, _⟩ := raiB_iff.1 hb; rw [hat] at h3; exact ⟨h2.1, h2.2, h3⟩)
    refine ⟨by rw [hs]; simp at hb ⊢; exact hb, ?_, by rw [raiF_no hb, hs], by rw [raiK_no hb, hs]⟩
    unfold raiE
    rw [if_pos hn]
    by_cases hv : 0 ≤ v ∧ v ≤ 1000
    · rw [if_pos hv, if_pos hv, if_pos (by rw [hat]; omega)]
    · rw [if_neg hv, if_neg hv]
theorem may_one {nm : ByteArray} {m v : Int} (hn : nameB nm = true) : mayE (oneF nm m) nm v = if 1 ≤ v ∧ v ≤ 1000 then (if v < m then 9 else 0) else 1 := by unfold mayE; rw [if_pos hn, oneF_at]
/-- The greatest of some. -/
def mx : List Int → Int
  | [] => 0
  | v :: r => stepM (mx r) v
theorem mx_ge : ∀ xs, 0 ≤ mx xs
  | [] => Int.le_refl _
  | v :: r => (stepM_ge (mx_ge r)).1
theorem mx_snoc (v : Int) : ∀ xs, mx (xs ++ [v]) = stepM (mx xs) v
  | [] => rfl
  | u :: r => by
    rw [List.cons_append]
    show stepM (mx (r ++ [v])) u = stepM (stepM (mx r) u) v
    rw [mx_snoc v r]
    unfold stepM
    omega
theorem mx_take {xs : List Int} {k : Nat} {v : Int} (h : xs[k]? = some v) : mx (xs.take (k + 1)) = stepM (mx (xs.take k)) v := by rw [take_one h, mx_snoc]
theorem mx_drop {xs : List Int} {k : Nat} {v : Int} (h : xs[k]? = some v) : mx (xs.drop k) = stepM (mx (xs.drop (k + 1))) v := by
  obtain ⟨h1, h2⟩ := List.getElem?_eq_some_iff.1 h
  rw [List.drop_eq_getElem_cons h1, h2]
  rfl
end Go.Proofs.YtojdaifnljghkabGreatDoor.M
namespace Go.Proofs.YtojdaifnljghkabGreatDoor.M
set_option linter.unusedVariables false

/-- An event in its cells: a register and a measure. -/
def evV (e : Int × Int) : List Value := [.int .i64 e.1, .int .i64 e.2]
theorem evV_len (e : Int × Int) : (evV e).length = 2 := rfl
def evOk (e : Int × Int) : Bool := isReg e.1 && isM e.2
def evE (l : List (Int × Int)) : Int := if 30 < l.length then 4 else if l.all evOk = true then 0 else 1
def putR (xs : List Int) (e : Int × Int) : List Int := xs.set e.1.toNat (stp 7919 (xs.getD e.1.toNat 0) e.2)
def repV (l : List (Int × Int)) : List Int := l.foldl putR noBank
theorem evE_full {l : List (Int × Int)} (h : 30 < l.length) : evE l = 4 := if_pos h
theorem evE_ok {l : List (Int × Int)} (h : ¬ 30 < l.length) (ho : l.all evOk = true) : evE l = 0 := by unfold evE; rw [if_neg h, if_pos ho]
theorem evE_bad {l : List (Int × Int)} (h : ¬ 30 < l.length) (ho : l.all evOk = false) : evE l = 1 := by unfold evE; rw [if_neg h, ho]; rfl
theorem evE_zero {l : List (Int × Int)} (h : evE l = 0) : ¬ 30 < l.length ∧ l.all evOk = true := by
  by_cases h1 : 30 < l.length
  · rw [evE_full h1] at h; cases h
  · cases h2 : l.all evOk with
    | true => exact ⟨h1, rfl⟩
    | false => rw [evE_bad h1 h2] at h; cases h
theorem evOk_iff {e : Int × Int} : evOk e = true ↔ isReg e.1 = true ∧ isM e.2 = true := by unfold evOk; rw [Bool.and_eq_true]
theorem putR_len (xs : List Int) (e : Int × Int) : (putR xs e).length = xs.length := by unfold putR; rw [List.length_set]
theorem fold_len : ∀ (l : List (Int × Int)) (xs : List Int), (l.foldl putR xs).length = xs.length
  | [], xs => rfl
  | e :: r, xs => by rw [List.foldl_cons, fold_len r, putR_len]
theorem repV_len (l : List (Int × Int)) : (repV l).length = 8 := fold_len l noBank
theorem repV_nil : repV [] = noBank := rfl
theorem repV_snoc (l : List (Int × Int)) (e : Int × Int) : repV (l ++ [e]) = putR (repV l) e := by unfold repV; rw [List.foldl_append]; rfl
theorem repV_take {l : List (Int × Int)} {k : Nat} {e : Int × Int} (h : l[k]? = some e) : repV (l.take (k + 1)) = putR (repV (l.take k)) e := by rw [take_one h, repV_snoc]
theorem putR_ok {xs : List Int} (h : okAll xs = true) (e : Int × Int) : okAll (putR xs e) = true := by
  refine okAll_of fun k x hx => ?_
  unfold putR at hx
  rw [List.getElem?_set] at hx
  split at hx
  · split at hx
    · cases hx
      exact isM_iff.2 ⟨stp_ge _ _ _, stp_lt _ _ _⟩
    · cases hx
  · exact okAll_at h hx
theorem fold_ok : ∀ (l : List (Int × Int)) (xs : List Int), okAll xs = true → okAll (l.foldl putR xs) = true
  | [], xs, h => h
  | e :: r, xs, h => by rw [List.foldl_cons]; exact fold_ok r _ (putR_ok h e)
theorem repV_ok (l : List (Int × Int)) : okAll (repV l) = true := fold_ok l noBank rfl
/-- One more goes on from where they were: it is the bank extended. -/
theorem rep_ext {l : List (Int × Int)} {e : Int × Int} (h : evOk e = true) : extE (repV l) e.1 e.2 = 0 ∧ extV (repV l) e.1 e.2 = repV (l ++ [e]) := by
  have ho : extOk (repV l) e.1 e.2 = true := extOk_iff.2 ⟨repV_ok l, (evOk_iff.1 h).1, (evOk_iff.1 h).2⟩
  exact ⟨extE_ok ho, by rw [extV_ok ho, repV_snoc]; rfl⟩
/-- Two events of two registers may change places. -/
theorem putR_comm {xs : List Int} {a b : Int × Int} (h : a.1.toNat ≠ b.1.toNat) : putR (putR xs a) b = putR (putR xs b) a := by
  unfold putR
  rw [List.set_comm _ _ h, List.getD_eq_getElem?_getD, List.getD_eq_getElem?_getD, List.getElem?_set_ne h, List.getD_eq_getElem?_getD, List.getD_eq_getElem?_getD, List.getElem?_set_ne (Ne.symm h)]
theorem fold_comm {xs : List Int} {a b : Int × Int} (h : a.1.toNat ≠ b.1.toNat) (l r : List (Int × Int)) : (l ++ a :: b :: r).foldl putR xs = (l ++ b :: a :: r).foldl putR xs := by
  rw [List.foldl_append, List.foldl_append, List.foldl_cons, List.foldl_cons, List.foldl_cons, List.foldl_cons, putR_comm h]
end Go.Proofs.YtojdaifnljghkabGreatDoor.M
namespace Go.Proofs.YtojdaifnljghkabGreatDoor.M

theorem cop : Nat.Coprime 1000003 7919 := by decide +kernel
theorem dvd_of (d : Int) (h : (1000003 : Int) ∣ 7919 * d) : (1000003 : Int) ∣ d := by
  have h1 := Int.natAbs_dvd_natAbs.2 h
  rw [Int.natAbs_mul] at h1
  have h2 : 1000003 ∣ d.natAbs := Nat.Coprime.dvd_of_dvd_mul_left cop h1
  exact Int.natAbs_dvd_natAbs.1 h2
theorem dvd_small (d : Int) (h : (1000003 : Int) ∣ d) (h1 : -1000003 < d) (h2 : d < 1000003) : d = 0 := by
  obtain ⟨t, ht⟩ := h
  omega
theorem mod_sub (a b n : Int) (h : (7919 * a + n + 1) % 1000003 = (7919 * b + n + 1) % 1000003) : (1000003 : Int) ∣ 7919 * (a - b) := by
  have h1 := Int.dvd_of_emod_eq_zero (Int.emod_eq_emod_iff_emod_sub_eq_zero.1 h)
  have e : 7919 * a + n + 1 - (7919 * b + n + 1) = 7919 * (a - b) := by clear h h1; omega
  rw [e] at h1
  exact h1
theorem stp_left {a b n : Int} (ha : 0 ≤ a) (ha' : a < 1000003) (hb : 0 ≤ b) (hb' : b < 1000003) (h : stp 7919 a n = stp 7919 b n) : a = b := by
  have h1 := dvd_small (a - b) (dvd_of _ (mod_sub a b n h)) (by omega) (by omega)
  clear h
  omega
theorem allFrom_left : ∀ (xs : List Int) (a b : Int), 0 ≤ a → a < 1000003 → 0 ≤ b → b < 1000003 → allFrom a xs = allFrom b xs → a = b
  | [], a, b, _, _, _, _, h => h
  | x :: r, a, b, h0, h1, h2, h3, h => by
    have e : allFrom (stp 7919 a x) r = allFrom (stp 7919 b x) r := h
    exact stp_left h0 h1 h2 h3 (allFrom_left r _ _ (stp_ge _ _ _) (stp_lt _ _ _) (stp_ge _ _ _) (stp_lt _ _ _) e)
theorem allFrom_app (m : Int) (xs ys : List Int) : allFrom m (xs ++ ys) = allFrom (allFrom m xs) ys := by unfold allFrom; rw [List.foldl_append]
theorem allFrom_mid {p q : List Int} {x y : Int} (hx : isM x = true) (hy : isM y = true) (h : allFrom 0 (p ++ x :: q) = allFrom 0 (p ++ y :: q)) : x = y := by
  rw [allFrom_app, allFrom_app] at h
  have e : allFrom (stp 7919 (allFrom 0 p) x) q = allFrom (stp 7919 (allFrom 0 p) y) q := h
  have h1 := allFrom_left q _ _ (stp_ge _ _ _) (stp_lt _ _ _) (stp_ge _ _ _) (stp_lt _ _ _) e
  have hx' := isM_iff.1 hx
  have hy' := isM_iff.1 hy
  exact stp_inj _ _ _ _ hx'.1 hx'.2 hy'.1 hy'.2 h1
theorem askedL_nodup (m : Int) (n : Nat) : (askedL m n).Nodup := by
  induction n with
  | zero => exact List.nodup_nil
  | succ n ih =>
    cases h : bit m n with
    | false => rw [askedL_miss h]; exact ih
    | true =>
      rw [askedL_hit h, List.nodup_append]
      refine ⟨ih, by simp, ?_⟩
      intro a ha b hb
      obtain ⟨k, hk, rfl, _⟩ := askedL_mem ha
      rw [List.mem_singleton.1 hb]
      omega
theorem pick_set {xs : List Int} {k : Nat} {z : Int} {is : List Int} (h : ∀ i ∈ is, i.toNat ≠ k) : pick (xs.set k z) is = pick xs is := by
  unfold pick
  apply List.map_congr_left
  intro i hi
  rw [List.getD_eq_getElem?_getD, List.getD_eq_getElem?_getD, List.getElem?_set_ne (Ne.symm (h i hi))]
theorem pick_app (xs is js : List Int) : pick xs (is ++ js) = pick xs is ++ pick xs js := by unfold pick; rw [List.map_append]
/-- Where one register alone that is asked for is another one, so is what all come to. -/
theorem dig_set {xs : List Int} {k : Nat} {x z : Int} {m : Int} (hk : k < 8) (hx : xs[k]? = some x) (hmx : isM x = true) (hmz : isM z = true) (hb : bit m k = true)
    (h : allFrom 0 (pick xs (askedL m 8)) = allFrom 0 (pick (xs.set k z) (askedL m 8))) : x = z := by
  obtain ⟨p, q, e⟩ := List.append_of_mem (askedL_of hk hb)
  have hnd := askedL_nodup m 8
  rw [e] at hnd
  have hpos : ∀ i ∈ askedL m 8, 0 ≤ i := fun i hi => by obtain ⟨j, _, rfl, _⟩ := askedL_mem hi; omega
  have hne : ∀ i ∈ p ++ q, i.toNat ≠ k := by
    intro i hi he
    have hi' : i ∈ askedL m 8 := by
      rw [e]
      rcases List.mem_append.1 hi with h | h
      · exact List.mem_append_left _ h
      · exact List.mem_append_right _ (List.mem_cons_of_mem _ h)
    have : i = (k : Int) := by have := hpos i hi'; omega
    subst this
    rw [List.nodup_append] at hnd
    obtain ⟨_, h2, h3⟩ := hnd
    rcases List.mem_append.1 hi with h | h
    · exact h3 _ h _ (List.mem_cons_self) rfl
    · exact (List.nodup_cons.1 h2).1 h
  rw [e, pick_app, pick_app, pick_set (fun i hi => hne i (List.mem_append_left _ hi))] at h
  have e2 : pick (xs.set k z) ((k : Int) :: q) = z :: pick xs q := by
    have hz : (xs.set k z)[k]? = some z := List.getElem?_set_self (by exact (List.getElem?_eq_some_iff.1 hx).1)
    have := pick_set (xs := xs) (k := k) (z := z) (is := q) (fun i hi => hne i (List.mem_append_right _ hi))
    rw [← this]
    unfold pick
    rw [List.map_cons, List.getD_eq_getElem?_getD, Int.toNat_natCast, hz]
    rfl
  have e3 : pick xs ((k : Int) :: q) = x :: pick xs q := by
    unfold pick
    rw [List.map_cons, List.getD_eq_getElem?_getD, Int.toNat_natCast, hx]
    rfl
  rw [e2, e3] at h
  exact allFrom_mid hmx hmz h
theorem differ_iff {xs ys : List Int} {m : Int} : differ xs ys m = true ↔ ∃ k : Nat, k < 8 ∧ bit m k = true ∧ xs.getD k 0 ≠ ys.getD k 0 := by
  unfold differ
  rw [List.any_eq_true]
  constructor
  · rintro ⟨i, hi, h⟩
    obtain ⟨k, hk, rfl, hb⟩ := askedL_mem hi
    exact ⟨k, hk, hb, by simpa using h⟩
  · rintro ⟨k, hk, hb, h⟩
    exact ⟨k, askedL_of hk hb, by simpa using h⟩
theorem extV_all {xs : List Int} {i m : Int} (ho : extOk xs i m = true) : okAll (extV xs i m) = true := by
  obtain ⟨h1, h2, h3⟩ := extOk_iff.1 ho
  rw [extV_ok ho]
  refine okAll_of fun k x hx => ?_
  rw [List.getElem?_set] at hx
  split at hx
  · split at hx
    · cases hx; exact isM_iff.2 ⟨stp_ge _ _ _, stp_lt _ _ _⟩
    · cases hx
  · exact okAll_at h1 hx
/-- Extended by one register, the digest is as it was just where what is asked for is alike. -/
theorem dig_ext {xs : List Int} {i m mask : Int} (hl : xs.length = 8) (ho : extOk xs i m = true) (hm : isMask mask = true) :
    decide (digV (extV xs i m) mask = digV xs mask) = !differ xs (extV xs i m) mask := by
  obtain ⟨h1, h2, h3⟩ := extOk_iff.1 ho
  have hreg := isReg_iff.1 h2
  have ha := extV_all ho
  rw [digV_ok h1 hm, digV_ok ha hm]
  cases hd : differ xs (extV xs i m) mask with
  | false => rw [pick_same hd]; simp
  | true =>
    rw [Bool.not_true]
    apply decide_eq_false
    intro he
    obtain ⟨k, hk, hb, hne⟩ := differ_iff.1 hd
    obtain ⟨j, rfl⟩ : ∃ j : Nat, i = j := ⟨i.toNat, by omega⟩
    obtain ⟨x, hx⟩ : ∃ x, xs[j]? = some x := ⟨xs[j]'(by omega), List.getElem?_eq_getElem (by omega)⟩
    have hkj : k = j := by
      apply Decidable.byContradiction
      intro hn
      apply hne
      rw [List.getD_eq_getElem?_getD, List.getD_eq_getElem?_getD, extV_other ho (by omega)]
    subst hkj
    rw [extV_ok ho, Int.toNat_natCast] at he hne
    have hz := dig_set (z := stp 7919 (xs.getD k 0) m) hk hx (okAll_at h1 hx) (isM_iff.2 ⟨stp_ge _ _ _, stp_lt _ _ _⟩) hb he.symm
    apply hne
    rw [List.getD_eq_getElem?_getD (l := xs.set _ _), List.getElem?_set_self (by omega), List.getD_eq_getElem?_getD, hx] 
    rw [List.getD_eq_getElem?_getD, hx] at hz
    exact hz
theorem dig_same {xs ys : List Int} {mask : Int} (h : sameV xs ys mask = true) : digV xs mask = digV ys mask := by
  unfold sameV at h
  split at h
  · rename_i hh
    rw [digV_ok hh.1 hh.2.2, digV_ok hh.2.1 hh.2.2, pick_same (by simpa using h)]
  · cases h
theorem dig_range (xs : List Int) (m : Int) : 0 ≤ digV xs m ∧ digV xs m < 1000003 := by
  unfold digV
  split
  · exact allFrom_range 0 _ (by omega) (by omega)
  · omega
end Go.Proofs.YtojdaifnljghkabGreatDoor.M
