/-
  No cell of these rows narrows 'for every input' (looked for: loops, veiled, ifaces, maps, wideKeys, modest, calm, conditions, laid).
  DERIVED. THE GIVEN ROWS OF THIS SEAT. 3 by the template 'for every input the law returns true; each argument reads behind the call as it read before'; 0 by the template 'total and deterministic' (their statements: YtlmalnbfmokpoacTotals.lean).
  GIVEN WITH THE SEED: the statements are not yours to turn. If you find one false, say at which input.
  Laid BY PROGRAM, IN A SANDBOX (cutbox-rows.mjs): the forced cells as the released guide's own fill.sh prints them over the translation b5c8061f05eba4e1… (all of the seat's roots in one cut). By AI agents, Wed Nov 11 2026. No macro, syntax, notation, axiom, sorry.
-/
import Derived.Test.YtlmalnbfmokpoacChecked
import GoSem.Claim
import GoSem.ClaimJoined
import GoSem.ClaimMapViews
import Derived.JoinedTies
import Derived.KernelRfl
namespace Go.Proofs.Ytlmalnbfmokpoac
/- THE CELL 'sum', in the pinned program and in every row, IS THE sha256 OF THE DUMP (.gsa) THAT YtlmalnbfmokpoacProg.lean LOADS. Nothing in Lean hashes anything: it is a label: what it is worth is what the hold of that sum in a sandbox is worth. -/
noncomputable def Try.pinned : Pinned := { name := "ytlmalnbfmokpoac", sum := "b5c8061f05eba4e191d3c9c844efa404c56c06d9a632b60dcef44d218c281fa6", checked := Try.checked }
namespace Rows
def none {H : Type} : Left H := { results := [], args := [] }

/-- 'stairlaw4.KeyOrder': WHATEVER THE INPUT: true; the input reads as it did. -/
def keyOrderSpec : ChangeSpec := { name := "keyOrder", fn := fun _ => fun
  | [d1, d2] => { results := [.lit (.bool true)], args := [d1, d2] }
  | _ => none }
def keyOrderRow : OpenClaim := { program := "ytlmalnbfmokpoac", sum := "b5c8061f05eba4e191d3c9c844efa404c56c06d9a632b60dcef44d218c281fa6", func := "bootstair/stairlaw4.KeyOrder", spec := "keyOrder", apart := false }
def KeyOrderSaid : Prop := keyOrderRow.holds Try.pinned (OpenSpec.ofChange keyOrderSpec)

/-- ITS FALSE NEIGHBOUR: 'it returns false'. Refute it at one input. -/
def keyOrderWrong : ChangeSpec := { name := "keyOrder", fn := fun _ => fun
  | [d1, d2] => { results := [.lit (.bool false)], args := [d1, d2] }
  | _ => none }
def KeyOrderWrongFalsely : Prop := keyOrderRow.holds Try.pinned (OpenSpec.ofChange keyOrderWrong)

/-- 'stairlaw1.CertChain': WHATEVER THE INPUT: true; the input reads as it did. -/
def certChainSpec : ChangeSpec := { name := "certChain", fn := fun _ => fun
  | [d1, d2, d3, d4, d5] => { results := [.lit (.bool true)], args := [d1, d2, d3, d4, d5] }
  | _ => none }
def certChainRow : OpenClaim := { program := "ytlmalnbfmokpoac", sum := "b5c8061f05eba4e191d3c9c844efa404c56c06d9a632b60dcef44d218c281fa6", func := "bootstair/stairlaw1.CertChain", spec := "certChain", apart := false }
def CertChainSaid : Prop := certChainRow.holds Try.pinned (OpenSpec.ofChange certChainSpec)

/-- ITS FALSE NEIGHBOUR: 'it returns false'. Refute it at one input. -/
def certChainWrong : ChangeSpec := { name := "certChain", fn := fun _ => fun
  | [d1, d2, d3, d4, d5] => { results := [.lit (.bool false)], args := [d1, d2, d3, d4, d5] }
  | _ => none }
def CertChainWrongFalsely : Prop := certChainRow.holds Try.pinned (OpenSpec.ofChange certChainWrong)

/-- 'stairlaw4.CertNone': WHATEVER THE INPUT: true; the input reads as it did. -/
def certNoneSpec : ChangeSpec := { name := "certNone", fn := fun _ => fun
  | [d] => { results := [.lit (.bool true)], args := [d] }
  | _ => none }
def certNoneRow : OpenClaim := { program := "ytlmalnbfmokpoac", sum := "b5c8061f05eba4e191d3c9c844efa404c56c06d9a632b60dcef44d218c281fa6", func := "bootstair/stairlaw4.CertNone", spec := "certNone", apart := false }
def CertNoneSaid : Prop := certNoneRow.holds Try.pinned (OpenSpec.ofChange certNoneSpec)

/-- ITS FALSE NEIGHBOUR: 'it returns false'. Refute it at one input. -/
def certNoneWrong : ChangeSpec := { name := "certNone", fn := fun _ => fun
  | [d] => { results := [.lit (.bool false)], args := [d] }
  | _ => none }
def CertNoneWrongFalsely : Prop := certNoneRow.holds Try.pinned (OpenSpec.ofChange certNoneWrong)

/- THE SECOND FORM. 'bulk': how many values and letters a reading holds, each counted each time it is reached (what is shared counts as often as it is met; a slice's spare places count too). A statement '..UptoSaid' is the law's where the arguments, and the package variables that the reading takes, are together of bulk at most 1048576: NARROWER than '..Said'. Prove '..Said' where nothing that the law and all that it calls make is longer than what came in: it says more and counts as full. Else prove '..UptoSaid'. A law counts once. -/
mutual
def uptoBulk {H : Type} : DataW H → Nat
  | .lit (.string bytes) => bytes.length + 1
  | .lit _ => 1
  | .nil => 1
  | .ptr d => uptoBulk d + 1
  | .slice elems spare => uptoBulkAll elems + uptoBulkAll spare + 1
  | .agg parts => uptoBulkAll parts + 1
  | .iface _ d => uptoBulk d + 1
  | .map entries => uptoBulkEntries entries + 1
  | .held _ => 1
def uptoBulkAll {H : Type} : List (DataW H) → Nat
  | [] => 0
  | d :: r => uptoBulk d + uptoBulkAll r
def uptoBulkEntries {H : Type} : List (Lit × DataW H) → Nat
  | [] => 0
  | x :: r => uptoBulkEntry x + uptoBulkEntries r
def uptoBulkEntry {H : Type} : Lit × DataW H → Nat
  | (.string bytes, d) => bytes.length + uptoBulk d + 1
  | (_, d) => uptoBulk d + 1
 end
def uptoSmall : (H : Type) → List (DataW H) → Bool := fun _ ds => decide (uptoBulkAll ds ≤ 1048576)
def OpenSpec.upto (s : _root_.Go.ChangeSpec) : _root_.Go.OpenSpec := { _root_.Go.OpenSpec.ofChange s with cond := some uptoSmall }

/-- 'stairlaw4.KeyOrder', WHERE WHAT IT READS IS OF BULK AT MOST 1048576: true; the input reads as it did. -/
def keyOrderUptoRow : OpenClaim := { program := "ytlmalnbfmokpoac", sum := "b5c8061f05eba4e191d3c9c844efa404c56c06d9a632b60dcef44d218c281fa6", func := "bootstair/stairlaw4.KeyOrder", spec := "keyOrder", apart := false, narrowed := true }
def KeyOrderUptoSaid : Prop := keyOrderUptoRow.holds Try.pinned (OpenSpec.upto keyOrderSpec)

/-- 'stairlaw1.CertChain', WHERE WHAT IT READS IS OF BULK AT MOST 1048576: true; the input reads as it did. -/
def certChainUptoRow : OpenClaim := { program := "ytlmalnbfmokpoac", sum := "b5c8061f05eba4e191d3c9c844efa404c56c06d9a632b60dcef44d218c281fa6", func := "bootstair/stairlaw1.CertChain", spec := "certChain", apart := false, narrowed := true }
def CertChainUptoSaid : Prop := certChainUptoRow.holds Try.pinned (OpenSpec.upto certChainSpec)

/-- 'stairlaw4.CertNone', WHERE WHAT IT READS IS OF BULK AT MOST 1048576: true; the input reads as it did. -/
def certNoneUptoRow : OpenClaim := { program := "ytlmalnbfmokpoac", sum := "b5c8061f05eba4e191d3c9c844efa404c56c06d9a632b60dcef44d218c281fa6", func := "bootstair/stairlaw4.CertNone", spec := "certNone", apart := false, narrowed := true }
def CertNoneUptoSaid : Prop := certNoneUptoRow.holds Try.pinned (OpenSpec.upto certNoneSpec)

end Rows
end Go.Proofs.Ytlmalnbfmokpoac
