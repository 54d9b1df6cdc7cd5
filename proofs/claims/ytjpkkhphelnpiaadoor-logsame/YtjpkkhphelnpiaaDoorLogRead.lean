/-
  Contracts of package log's record (a name, a blank, a number, byte 10) and read (the name and the number of what record made), and of strings.Cut at a blank.
-/
import Derived.Test.YtjpkkhphelnpiaaDoorLogPart
import Derived.Shelf.Strings.Search2
import Derived.Shelf.Bytes.SlIndexAt
import Derived.Laws.BytesArg
namespace Go.Proofs.YtjpkkhphelnpiaaDoor.Log
open Go.ChangeShapes Go.WideShapes Go.ChangeAt Go.RowKit
open Go.Proofs.YtjpkkhphelnpiaaDoor.M
set_option linter.unusedVariables false

def bodB (nm : ByteArray) (v : Int) : ByteArray := { data := (bodL nm v).toArray }
theorem bodB_size (nm : ByteArray) (v : Int) : (bodB nm v).size = (bodL nm v).length := by
  show (bodL nm v).toArray.size = _
  simp
theorem bytes_ext {s t : ByteArray} (h : s.data.toList = t.data.toList) : s = t := by
  cases s
  cases t
  simpa [ByteArray.mk.injEq, Array.toList_inj] using h
theorem bodB_name (nm : ByteArray) (v : Int) : (bodB nm v).extract 0 nm.size = nm := by
  apply bytes_ext
  simp [ByteArray.data_extract, bodB, bodL]
theorem bodB_num (nm : ByteArray) (v : Int) : (bodB nm v).extract (nm.size + 1) (bodB nm v).size = { data := (Lib.itoa v).toArray } := by
  apply bytes_ext
  rw [bodB_size]
  simp only [ByteArray.data_extract, bodB, Array.toList_extract]
  have e : bodL nm v = (nm.data.toList ++ [32]) ++ Lib.itoa v := by unfold bodL; simp
  rw [List.extract_eq_take_drop, e]
  have h1 : nm.size + 1 = (nm.data.toList ++ [32]).length := by rw [List.length_append, size_list]; rfl
  rw [h1, List.drop_left, List.length_append]
  rw [List.take_of_length_le (by omega)]

set_option maxHeartbeats 2000000 in
/-- A record's bytes. -/
theorem record_any (nm : ByteArray) (v : Int) (w : World) (hg : GoodR nm v) (hh : Image.Has w) :
    Calls Tryd.prog 11 #[.string nm, .int .i64 v] w fun e w' => e = .returned (.string (recB nm v)) ∧ Below w.heap.size w w' := by
  obtain ⟨h1, h2, h3⟩ := hg
  obtain ⟨_, h4, h5⟩ := nameB_parts h1
  have hD := itoa_four h2 h3
  have HI := hide (fun (W : World) (hW : Image.Has W) => Image.itoa_any v W (by omega) (by omega) hW)
  have HL := hide (show recB nm v = nm ++ spcB ++ { data := (Lib.itoa v).toArray } ++ endB from rfl)
  have HH := hide hh
  generalize ({ data := (Lib.itoa v).toArray } : ByteArray) = D at hD HL HI
  clear h1 h2 h3 hh
  have q1 : ¬ 9223372036854775807 < nm.size + 1 := by omega
  have q2 : ¬ 9223372036854775807 < nm.size + 1 + D.size := by omega
  have q3 : ¬ 9223372036854775807 < nm.size + 1 + D.size + 1 := by omega
  go_enter Tryd.func11, Tryd.ntmps11
  go_wp2_with (go_at_call 17; refine (HI.out _ HH.out).mono ?_; rintro e w1 ⟨rfl, hb1⟩)
  go_ret
  exact ⟨by rw [HL.out]; rfl, hb1⟩
/-- Some bytes as the numbers that cells hold. -/
def numL (bs : List UInt8) : List Int := bs.map fun b => (b.toNat : Int)
theorem str_num (bs : List UInt8) : strOfNums (numL bs) = { data := bs.toArray } := by
  unfold strOfNums numL
  congr 1
  rw [List.map_map]
  congr 1
  refine (List.map_congr_left (g := id) (fun b _ => ?_)).trans (List.map_id _)
  simp
theorem num_get (bs : List UInt8) (i : Nat) (hi : i < bs.length) : (numL bs).getD i 0 = ((bs[i]'hi).toNat : Int) := by
  unfold numL
  simp [List.getD, List.getElem?_map, List.getElem?_eq_getElem hi]
theorem bytes_num (bs : List UInt8) : Lib.bytesOf (numL bs) = bs := by
  unfold Lib.bytesOf numL
  rw [List.map_map]
  refine (List.map_congr_left (g := id) (fun b _ => ?_)).trans (List.map_id _)
  simp
end Go.Proofs.YtjpkkhphelnpiaaDoor.Log
