/-
  No cell of these rows narrows 'for every input' (looked for: loops, veiled, ifaces, maps, wideKeys, modest, calm, conditions, laid).
  DERIVED. THE GIVEN ROWS OF THIS SEAT. 4 by the template 'for every input the law returns true; each argument reads behind the call as it read before'; 0 by the template 'total and deterministic' (their statements: YtlmalnbfmokpoaaTotals.lean).
  GIVEN WITH THE SEED: the statements are not yours to turn. If you find one false, say at which input.
  Laid BY PROGRAM, IN A SANDBOX (cutbox-rows.mjs): the forced cells as the released guide's own fill.sh prints them over the translation 9637a16d9d9882dd… (all of the seat's roots in one cut). By AI agents, Wed Nov 11 2026. No macro, syntax, notation, axiom, sorry.
-/
import Derived.Test.YtlmalnbfmokpoaaChecked
import GoSem.Claim
import GoSem.ClaimJoined
import GoSem.ClaimMapViews
import Derived.JoinedTies
import Derived.KernelRfl
namespace Go.Proofs.Ytlmalnbfmokpoaa
/- THE CELL 'sum', in the pinned program and in every row, IS THE sha256 OF THE DUMP (.gsa) THAT YtlmalnbfmokpoaaProg.lean LOADS. Nothing in Lean hashes anything: it is a label: what it is worth is what the hold of that sum in a sandbox is worth. -/
noncomputable def Try.pinned : Pinned := { name := "ytlmalnbfmokpoaa", sum := "9637a16d9d9882dddaa4fcc03b27c90a14dcfcf19942e8cb530e6c5778af837a", checked := Try.checked }
namespace Rows
def none {H : Type} : Left H := { results := [], args := [] }

/-- 'stairlaw1.Names': WHATEVER THE INPUT: true; the input reads as it did. -/
def namesSpec : ChangeSpec := { name := "names", fn := fun _ => fun
  | [] => { results := [.lit (.bool true)], args := [] }
  | _ => none }
def namesRow : OpenClaim := { program := "ytlmalnbfmokpoaa", sum := "9637a16d9d9882dddaa4fcc03b27c90a14dcfcf19942e8cb530e6c5778af837a", func := "bootstair/stairlaw1.Names", spec := "names", apart := false }
def NamesSaid : Prop := namesRow.holds Try.pinned (OpenSpec.ofChange namesSpec)

/-- ITS FALSE NEIGHBOUR: 'it returns false'. Refute it at one input. -/
def namesWrong : ChangeSpec := { name := "names", fn := fun _ => fun
  | [] => { results := [.lit (.bool false)], args := [] }
  | _ => none }
def NamesWrongFalsely : Prop := namesRow.holds Try.pinned (OpenSpec.ofChange namesWrong)

/-- 'stairlaw1.MeasureGoes': WHATEVER THE INPUT: true; the input reads as it did. -/
def measureGoesSpec : ChangeSpec := { name := "measureGoes", fn := fun _ => fun
  | [d1, d2, d3, d4, d5, d6] => { results := [.lit (.bool true)], args := [d1, d2, d3, d4, d5, d6] }
  | _ => none }
def measureGoesRow : OpenClaim := { program := "ytlmalnbfmokpoaa", sum := "9637a16d9d9882dddaa4fcc03b27c90a14dcfcf19942e8cb530e6c5778af837a", func := "bootstair/stairlaw1.MeasureGoes", spec := "measureGoes", apart := false }
def MeasureGoesSaid : Prop := measureGoesRow.holds Try.pinned (OpenSpec.ofChange measureGoesSpec)

/-- ITS FALSE NEIGHBOUR: 'it returns false'. Refute it at one input. -/
def measureGoesWrong : ChangeSpec := { name := "measureGoes", fn := fun _ => fun
  | [d1, d2, d3, d4, d5, d6] => { results := [.lit (.bool false)], args := [d1, d2, d3, d4, d5, d6] }
  | _ => none }
def MeasureGoesWrongFalsely : Prop := measureGoesRow.holds Try.pinned (OpenSpec.ofChange measureGoesWrong)

/-- 'stairlaw4.MeasureNone': WHATEVER THE INPUT: true; the input reads as it did. -/
def measureNoneSpec : ChangeSpec := { name := "measureNone", fn := fun _ => fun
  | [d] => { results := [.lit (.bool true)], args := [d] }
  | _ => none }
def measureNoneRow : OpenClaim := { program := "ytlmalnbfmokpoaa", sum := "9637a16d9d9882dddaa4fcc03b27c90a14dcfcf19942e8cb530e6c5778af837a", func := "bootstair/stairlaw4.MeasureNone", spec := "measureNone", apart := false }
def MeasureNoneSaid : Prop := measureNoneRow.holds Try.pinned (OpenSpec.ofChange measureNoneSpec)

/-- ITS FALSE NEIGHBOUR: 'it returns false'. Refute it at one input. -/
def measureNoneWrong : ChangeSpec := { name := "measureNone", fn := fun _ => fun
  | [d] => { results := [.lit (.bool false)], args := [d] }
  | _ => none }
def MeasureNoneWrongFalsely : Prop := measureNoneRow.holds Try.pinned (OpenSpec.ofChange measureNoneWrong)

/-- 'stairlaw1.BankForward': WHATEVER THE INPUT: true; the input reads as it did. -/
def bankForwardSpec : ChangeSpec := { name := "bankForward", fn := fun _ => fun
  | [d1, d2, d3, d4, d5, d6] => { results := [.lit (.bool true)], args := [d1, d2, d3, d4, d5, d6] }
  | _ => none }
def bankForwardRow : OpenClaim := { program := "ytlmalnbfmokpoaa", sum := "9637a16d9d9882dddaa4fcc03b27c90a14dcfcf19942e8cb530e6c5778af837a", func := "bootstair/stairlaw1.BankForward", spec := "bankForward", unfollowed := true, recurses := true, apart := false }
def BankForwardSaid : Prop := bankForwardRow.holds Try.pinned (OpenSpec.ofChange bankForwardSpec)

/-- ITS FALSE NEIGHBOUR: 'it returns false'. Refute it at one input. -/
def bankForwardWrong : ChangeSpec := { name := "bankForward", fn := fun _ => fun
  | [d1, d2, d3, d4, d5, d6] => { results := [.lit (.bool false)], args := [d1, d2, d3, d4, d5, d6] }
  | _ => none }
def BankForwardWrongFalsely : Prop := bankForwardRow.holds Try.pinned (OpenSpec.ofChange bankForwardWrong)

/- THE SECOND FORM. 'bulk': how many values and letters a reading holds, each counted each time it is reached (what is shared counts as often as it is met; a slice's spare places count too). A statement '..UptoSaid' is the law's where the arguments, and the package variables that the reading takes, are together of bulk at most 1048576: NARROWER than '..Said'. Prove '..Said' where nothing that the law and all that it calls make is longer than what came in: it says more and counts as full. Else prove '..UptoSaid'. A law counts once. -/
mutual
def uptoBulk {H : Type} : DataW H → Nat
  | .lit (.string bytes) => bytes.length + 1
  | .lit _ => 1
  | .nil => 1
  | .ptr d => uptoBulk d + 1
  | .slice elems spare => uptoBulkAll elems + uptoBulkAll spare + 1
  | .agg parts => uptoBulkAll parts + 1
  | .iface _ d => uptoBulk d + 1
  | .map entries => uptoBulkEntries entries + 1
  | .held _ => 1
def uptoBulkAll {H : Type} : List (DataW H) → Nat
  | [] => 0
  | d :: r => uptoBulk d + uptoBulkAll r
def uptoBulkEntries {H : Type} : List (Lit × DataW H) → Nat
  | [] => 0
  | x :: r => uptoBulkEntry x + uptoBulkEntries r
def uptoBulkEntry {H : Type} : Lit × DataW H → Nat
  | (.string bytes, d) => bytes.length + uptoBulk d + 1
  | (_, d) => uptoBulk d + 1
 end
def uptoSmall : (H : Type) → List (DataW H) → Bool := fun _ ds => decide (uptoBulkAll ds ≤ 1048576)
def OpenSpec.upto (s : _root_.Go.ChangeSpec) : _root_.Go.OpenSpec := { _root_.Go.OpenSpec.ofChange s with cond := some uptoSmall }

/-- 'stairlaw1.Names', WHERE WHAT IT READS IS OF BULK AT MOST 1048576: true; the input reads as it did. -/
def namesUptoRow : OpenClaim := { program := "ytlmalnbfmokpoaa", sum := "9637a16d9d9882dddaa4fcc03b27c90a14dcfcf19942e8cb530e6c5778af837a", func := "bootstair/stairlaw1.Names", spec := "names", apart := false, narrowed := true }
def NamesUptoSaid : Prop := namesUptoRow.holds Try.pinned (OpenSpec.upto namesSpec)

/-- 'stairlaw1.MeasureGoes', WHERE WHAT IT READS IS OF BULK AT MOST 1048576: true; the input reads as it did. -/
def measureGoesUptoRow : OpenClaim := { program := "ytlmalnbfmokpoaa", sum := "9637a16d9d9882dddaa4fcc03b27c90a14dcfcf19942e8cb530e6c5778af837a", func := "bootstair/stairlaw1.MeasureGoes", spec := "measureGoes", apart := false, narrowed := true }
def MeasureGoesUptoSaid : Prop := measureGoesUptoRow.holds Try.pinned (OpenSpec.upto measureGoesSpec)

/-- 'stairlaw4.MeasureNone', WHERE WHAT IT READS IS OF BULK AT MOST 1048576: true; the input reads as it did. -/
def measureNoneUptoRow : OpenClaim := { program := "ytlmalnbfmokpoaa", sum := "9637a16d9d9882dddaa4fcc03b27c90a14dcfcf19942e8cb530e6c5778af837a", func := "bootstair/stairlaw4.MeasureNone", spec := "measureNone", apart := false, narrowed := true }
def MeasureNoneUptoSaid : Prop := measureNoneUptoRow.holds Try.pinned (OpenSpec.upto measureNoneSpec)

/-- 'stairlaw1.BankForward', WHERE WHAT IT READS IS OF BULK AT MOST 1048576: true; the input reads as it did. -/
def bankForwardUptoRow : OpenClaim := { program := "ytlmalnbfmokpoaa", sum := "9637a16d9d9882dddaa4fcc03b27c90a14dcfcf19942e8cb530e6c5778af837a", func := "bootstair/stairlaw1.BankForward", spec := "bankForward", unfollowed := true, recurses := true, apart := false, narrowed := true }
def BankForwardUptoSaid : Prop := bankForwardUptoRow.holds Try.pinned (OpenSpec.upto bankForwardSpec)

end Rows
end Go.Proofs.Ytlmalnbfmokpoaa
