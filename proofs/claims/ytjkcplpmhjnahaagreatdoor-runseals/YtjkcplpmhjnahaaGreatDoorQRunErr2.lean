/-
  errors.As at a lineError that wraps what is no Errno; and what a lineError is answered.
-/
import Derived.Test.YtjkcplpmhjnahaaGreatDoorQRunErr
namespace Go.Proofs.YtjkcplpmhjnahaaGreatDoor.As
open Go.RowKit Go.Extern.Stop Go.Stop Go.Extern
open Go.Proofs.YtjkcplpmhjnahaaGreatDoor.M
set_option linter.unusedVariables false

set_option maxHeartbeats 4000000 in
theorem as_bad (p : Addr) (t : Addr) (old : Value) (w : World) (hg0 : Handle w) (ht0 : w.cell? t = some old) :
    Calls Tryz.prog 48 #[.iface 80 (.agg #[.iface 190 (.pointer (some p))]), .iface 100 (.pointer (some t))] w fun ev w' => ev = .returned (.bool false) ∧ w' = (((((w.alloc (.cells #[.pointer (some t)] 100)).alloc (.cells #[.pointer (some ⟨15, 100, none⟩), .pointer (some ⟨w.heap.size, 0, none⟩), .int .u64 150] 119)).alloc (.cells #[.pointer (some ⟨15, 100, none⟩), .pointer (some ⟨w.heap.size, 0, none⟩), .int .u64 150] 119)).alloc (.cells #[.iface 190 (.pointer (some p))] 80))) := by
  have h6 := @run_callFunc_extern Tryz.prog 68 _ (fun args => ReflectliteValue.unpack (args.getD 0 (.tuple #[]))) Tryz.func68 (by kernel_rfl) (by kernel_rfl) (by kernel_rfl) (by kernel_rfl)
  have h7 := @run_callFunc_extern Tryz.prog 69 _ (ReflectliteValue.methodAny (ReflectliteValue.valueError "reflectlite.Value.Type" 0) (fun t _ _ _ => ReflectliteType.toType t)) Tryz.func69 (by kernel_rfl) (by kernel_rfl) (by kernel_rfl) (by kernel_rfl)
  have h8 := @run_callFunc_extern Tryz.prog 70 _ (ReflectliteValue.method (ReflectliteValue.valueError "reflectlite.Value.IsNil" 0) ReflectliteValue.isNil) Tryz.func70 (by kernel_rfl) (by kernel_rfl) (by kernel_rfl) (by kernel_rfl)
  have h27 := @run_callFunc_extern Tryz.prog 158 _ (ReflectliteType.abiMethod fun t => do pure (.int .u8 (← Rtype.kind t))) Tryz.func158 (by kernel_rfl) (by kernel_rfl) (by kernel_rfl) (by kernel_rfl)
  have h37 := @run_callFunc_extern Tryz.prog 169 _ (ReflectliteType.method ReflectliteType.elem) Tryz.func169 (by kernel_rfl) (by kernel_rfl) (by kernel_rfl) (by kernel_rfl)
  have h38 := @run_callFunc_extern Tryz.prog 170 _ (ReflectliteType.relation "Implements" ReflectliteType.implements_) Tryz.func170 (by kernel_rfl) (by kernel_rfl) (by kernel_rfl) (by kernel_rfl)
  have h10 := @run_callFunc_extern Tryz.prog 96 _ ReflectliteType.typeOf Tryz.func96 (by kernel_rfl) (by kernel_rfl) (by kernel_rfl) (by kernel_rfl)
  have h35 := @run_callFunc_extern Tryz.prog 167 _ (ReflectliteType.relation "AssignableTo" ReflectliteType.assignableTo) Tryz.func167 (by kernel_rfl) (by kernel_rfl) (by kernel_rfl) (by kernel_rfl)
  have h11 := @run_callFunc_extern Tryz.prog 97 _ (ReflectliteValue.method (ReflectliteValue.valueError "reflectlite.Value.Elem" 0) ReflectliteValue.elem) Tryz.func97 (by kernel_rfl) (by kernel_rfl) (by kernel_rfl) (by kernel_rfl)
  have h12 := @run_callFunc_extern Tryz.prog 98 _ ReflectliteValue.set Tryz.func98 (by kernel_rfl) (by kernel_rfl) (by kernel_rfl) (by kernel_rfl)
  have tO := typeOfS
  have tL := typeOfL
  have mA := methodAssignableTo
  have a25 := assignableS
  have aL := assignableL
  have nL := noAsL
  have uL := isUnL
  have mU := methodUnwrap
  have nS := noAsS
  have uS := noUnS
  have uuS := noUnsS
  have f6 := valueOfP
  have f7 := typeP
  have mK := methodKind
  have mE := methodElem
  have mI := methodImplements
  have k27 := kindP
  have k25 := kindE
  have e27 := elemP
  have i25 := implementsE
  have n8 := isNilP ⟨w.heap.size, 0, none⟩ t ((w.alloc (.cells #[.pointer (some t)] 100)).alloc (.cells #[.pointer (some ⟨15, 100, none⟩), .pointer (some ⟨w.heap.size, 0, none⟩), .int .u64 150] 119)) (by simp)
  have hlt := hg0.lt
  have hg : w.cell? ⟨1, 0, none⟩ = some (.iface 142 (.agg #[.pointer (some ⟨15, 47, none⟩)])) := hg0
  have hg2 : ((w.alloc (.cells #[.pointer (some t)] 100)).alloc (.cells #[.pointer (some ⟨15, 100, none⟩), .pointer (some ⟨w.heap.size, 0, none⟩), .int .u64 150] 119)).cell? ⟨1, 0, none⟩ = some (.iface 142 (.agg #[.pointer (some ⟨15, 47, none⟩)])) := by
    rw [World.cell?_alloc_lt _ _ ⟨1, 0, none⟩ (by first | (simp; done) | (simp; omega)), World.cell?_alloc_lt _ _ ⟨1, 0, none⟩ hlt]; exact hg
  clear hg0 hg
  go_enter Tryz.func48, Tryz.ntmps48
  go_wp2
  refine wp_loop_rounds 2 ?_
  rw [rounds_succ]
  go_wp2_with (go_at_call 162; refine (unwrap_any _ rfl _).mono ?_; rintro e w' ⟨rfl, rfl⟩)
  rw [rounds_succ]
  go_wp2
  go_ret
  exact ⟨rfl, rfl⟩
end Go.Proofs.YtjkcplpmhjnahaaGreatDoor.As
namespace Go.Proofs.YtjkcplpmhjnahaaGreatDoor.Run
open Go.RowKit Go.ChangeShapes Go.WideShapes Go.ChangeAt
open Go.Proofs.YtjkcplpmhjnahaaGreatDoor.M
set_option linter.unusedVariables false

def badS : ByteArray := { data := #[98, 97, 100] }
/-- What run.errBad holds: an error of its own, and its text. -/
def BadAt (b : Addr) (w : World) : Prop := w.cell? ⟨0, 0, none⟩ = some (.iface 190 (.pointer (some b))) ∧ w.cell? b = some (.string badS)
theorem BadAt.lt {b : Addr} {w : World} (h : BadAt b w) : 0 < w.heap.size ∧ b.block < w.heap.size := ⟨World.block_lt_of_cell? w _ h.1, World.block_lt_of_cell? w _ h.2⟩
theorem BadAt.below {b : Addr} {w w' : World} (h : BadAt b w) (hb : Below w.heap.size w w') : BadAt b w' :=
  ⟨(hb.cell (p := ⟨0, 0, none⟩) h.lt.1).trans h.1, (hb.cell (p := b) h.lt.2).trans h.2⟩
def badV (b : Addr) : Value := .iface 190 (.pointer (some b))
set_option maxHeartbeats 2000000 in
theorem told_errno (k : Int) (w : World) (h0 : 0 ≤ k) (h9 : k ≤ 9) (hg : As.Handle w) : Calls Tryz.prog 35 #[.agg #[.iface 98 (.int .i64 k)]] w fun e w' => e = .returned (.string { data := (errN k).toArray }) ∧ Below w.heap.size w w' := by
  have HA := hide (fun (W : World) (hb : Below w.heap.size w W) => hg.below hb)
  have HN := hide (fun W => As.errno_any k h0 h9 W)
  clear hg h0 h9
  go_enter Tryz.func35, Tryz.ntmps35
  go_wp2_with (fail)
  refine (As.as_line k _ (.int .i64 0) _ (HA.out _ (by go_grown)) (by simp) (by simp)).mono ?_
  rintro e w' ⟨rfl, rfl⟩
  go_wp2_with (fail)
  refine (HN.out _).mono ?_
  rintro e w' ⟨rfl, rfl⟩
  go_wp2
  go_ret
  exact ⟨rfl, by go_grown⟩
set_option maxHeartbeats 2000000 in
theorem told_bad (b : Addr) (w : World) (hg : As.Handle w) (hb : BadAt b w) : Calls Tryz.prog 35 #[.agg #[badV b]] w fun e w' => e = .returned (.string badS) ∧ Below w.heap.size w w' := by
  have HA := hide (fun (W : World) (hb : Below w.heap.size w W) => hg.below hb)
  have HC := hide (fun (W : World) (hw : Below w.heap.size w W) => As.strerr_any b badS W (hb.below hw).2)
  have mE := As.methodError
  clear hg hb
  unfold badV
  go_enter Tryz.func35, Tryz.ntmps35
  go_wp2_with (fail)
  refine (As.as_bad _ _ (.int .i64 0) _ (HA.out _ (by go_grown)) (by simp)).mono ?_
  rintro e w' ⟨rfl, rfl⟩
  go_wp2_with (fail)
  refine (HC.out _ (by go_grown)).mono ?_
  rintro e w' ⟨rfl, rfl⟩
  go_wp2
  go_ret
  exact ⟨rfl, by go_grown⟩
end Go.Proofs.YtjkcplpmhjnahaaGreatDoor.Run
