/-
  The walk of stairlaw1.MeasureGoes over every list of ints, of its three lengths and kinds: it returns true, and memory that was there stays as it was.
-/
import Derived.Test.YtlmalnbfmokpoaaGoesOk
namespace Go.Proofs.Ytlmalnbfmokpoaa.Goes
open Go.ChangeShapes Go.WideShapes Go.ChangeAt Go.RowKit
open Go.Proofs.Ytlmalnbfmokpoaa.M

theorem walk (a : Option Addr) (n cap : Nat) (xs : List Int) (x y : Int) (s : ByteArray) (c d : Int) (w : World) (hn : n = xs.length) (hm : n ≤ maxLen) (hnc : a = none → cap = 0) (hr : Row w a xs) (hs : s.size ≤ 140737488351232)
    (wc : (Lit.int .u8 c).wf = true) (wd : (Lit.int .u8 d).wf = true) :
    Calls Try.prog 4 #[.slice a n cap, .int .i64 x, .int .i64 y, .string s, .int .u8 c, .int .u8 d] w fun e w' => e = .returned (.bool true) ∧ Below w.heap.size w w' := by
  have b4 := bounds_u8 wc
  have b5 := bounds_u8 wd
  by_cases hl : n ≤ 30
  · cases ho : okAll xs with
    | true => exact walk_ok s c d a n cap x y w hs b4.1 b4.2 b5.1 b5.2 xs hn hl hr hnc ho
    | false => exact walk_bad s c d a n cap x y w hs b4.1 b4.2 b5.1 b5.2 xs hn hl hr ho
  · exact walk_full s c d a n cap x y w hs b4.1 b4.2 b5.1 b5.2 (by omega) hm
end Go.Proofs.Ytlmalnbfmokpoaa.Goes
