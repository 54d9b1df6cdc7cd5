/-
  Contracts of package log's record (a name, a blank, a number, byte 10) and read (the name and the number of what record made), and of strings.Cut at a blank.
-/
import Derived.Test.YtgnpffkfbacejaaGreatDoorQLogPart
import Derived.Shelf.Strings.Search2
import Derived.Shelf.Bytes.SlIndexAt
import Derived.Laws.BytesArg
namespace Go.Proofs.YtgnpffkfbacejaaGreatDoor.Log
open Go.ChangeShapes Go.WideShapes Go.ChangeAt Go.RowKit
open Go.Proofs.YtgnpffkfbacejaaGreatDoor.M
set_option linter.unusedVariables false

def bodB (nm : ByteArray) (v : Int) : ByteArray := { data := (bodL nm v).toArray }
theorem bodB_size (nm : ByteArray) (v : Int) : (bodB nm v).size = (bodL nm v).length := by
  show (bodL nm v).toArray.size = _
  simp
theorem bytes_ext {s t : ByteArray} (h : s.data.toList = t.data.toList) : s = t := by
  cases s
  cases t
  simpa [ByteArray.mk.injEq, Array.toList_inj] using h
theorem bodB_name (nm : ByteArray) (v : Int) : (bodB nm v).extract 0 nm.size = nm := by
  apply bytes_ext
  simp [ByteArray.data_extract, bodB, bodL]
theorem bodB_num (nm : ByteArray) (v : Int) : (bodB nm v).extract (nm.size + 1) (bodB nm v).size = { data := (Lib.itoa v).toArray } := by
  apply bytes_ext
  rw [bodB_size]
  simp only [ByteArray.data_extract, bodB, Array.toList_extract]
  have e : bodL nm v = (nm.data.toList ++ [32]) ++ Lib.itoa v := by unfold bodL; simp
  rw [List.extract_eq_take_drop, e]
  have h1 : nm.size + 1 = (nm.data.toList ++ [32]).length := by rw [List.length_append, size_list]; rfl
  rw [h1, List.drop_left, List.length_append]
  rw [List.take_of_length_le (by omega)]

set_option maxHeartbeats 2000000 in
theorem lcut_any (s : ByteArray) (i : Nat) (w : World) (hix : Lib.indexByte s.data.toList 32 = i) (hr : i + 1 ≤ s.size) (hs : s.size ≤ 1000000) :
    Calls Tryz.prog 73 #[.string s, .string { data := #[32] }] w fun e w' => e = .returned (.tuple #[.string (s.extract 0 i), .string (s.extract (i + 1) s.size), .bool true]) ∧ Below w.heap.size w w' := by
  have c1 : (0 : Int) ≤ i := by omega
  have c2 : (i : Int) ≤ s.size := by omega
  have c3 : (0 : Int) ≤ (i : Int) + 1 := by omega
  have c4 : (i : Int) + 1 ≤ s.size := by omega
  have c5 : IntKind.i64.wrap ((i : Int) + 1) = (i : Int) + 1 := wrap_in (by omega) (by omega)
  go_enter Tryz.func73, Tryz.ntmps73
  go_wp2_with (go_at_call 96; refine (Any.stringslite_Index_one Tryz.lays219 s 32 _).mono ?_; rintro e w1 ⟨rfl, hw⟩; rw [hw, hix])
  go_region
  all_goals
   go_wp2
   go_ret3
   exact ⟨rfl, Below.drew (Below.refl _ _)⟩
set_option maxHeartbeats 2000000 in
theorem cut_any (s : ByteArray) (i : Nat) (w : World) (hix : Lib.indexByte s.data.toList 32 = i) (hr : i + 1 ≤ s.size) (hs : s.size ≤ 1000000) :
    Calls Tryz.prog 51 #[.string s, .string { data := #[32] }] w fun e w' => e = .returned (.tuple #[.string (s.extract 0 i), .string (s.extract (i + 1) s.size), .bool true]) ∧ Below w.heap.size w w' := by
  have CU := hide (fun (W : World) => lcut_any s i W hix hr hs)
  clear hix hr hs
  go_enter Tryz.func51, Tryz.ntmps51
  go_wp2_with (go_at_call 73; refine (CU.out _).mono ?_; rintro e w1 ⟨rfl, hb1⟩)
  go_ret3
  exact ⟨rfl, hb1⟩
set_option maxHeartbeats 2000000 in
/-- A record's bytes. -/
theorem record_any (nm : ByteArray) (v : Int) (w : World) (hg : GoodR nm v) (hh : Image.Has w) :
    Calls Tryz.prog 25 #[.string nm, .int .i64 v] w fun e w' => e = .returned (.string (recB nm v)) ∧ Below w.heap.size w w' := by
  obtain ⟨h1, h2, h3⟩ := hg
  obtain ⟨_, h4, h5⟩ := nameB_parts h1
  have hD := itoa_four h2 h3
  have HI := hide (fun (W : World) (hW : Image.Has W) => Image.itoa_any v W (by omega) (by omega) hW)
  have HL := hide (show recB nm v = nm ++ spcB ++ { data := (Lib.itoa v).toArray } ++ endB from rfl)
  have HH := hide hh
  generalize ({ data := (Lib.itoa v).toArray } : ByteArray) = D at hD HL HI
  clear h1 h2 h3 hh
  have q1 : ¬ 9223372036854775807 < nm.size + 1 := by omega
  have q2 : ¬ 9223372036854775807 < nm.size + 1 + D.size := by omega
  have q3 : ¬ 9223372036854775807 < nm.size + 1 + D.size + 1 := by omega
  go_enter Tryz.func25, Tryz.ntmps25
  go_wp2_with (go_at_call 47; refine (HI.out _ HH.out).mono ?_; rintro e w1 ⟨rfl, hb1⟩)
  go_ret
  exact ⟨by rw [HL.out]; rfl, hb1⟩
/-- Some bytes as the numbers that cells hold. -/
def numL (bs : List UInt8) : List Int := bs.map fun b => (b.toNat : Int)
theorem str_num (bs : List UInt8) : strOfNums (numL bs) = { data := bs.toArray } := by
  unfold strOfNums numL
  congr 1
  rw [List.map_map]
  congr 1
  refine (List.map_congr_left (g := id) (fun b _ => ?_)).trans (List.map_id _)
  simp
theorem num_get (bs : List UInt8) (i : Nat) (hi : i < bs.length) : (numL bs).getD i 0 = ((bs[i]'hi).toNat : Int) := by
  unfold numL
  simp [List.getD, List.getElem?_map, List.getElem?_eq_getElem hi]
theorem bytes_num (bs : List UInt8) : Lib.bytesOf (numL bs) = bs := by
  unfold Lib.bytesOf numL
  rw [List.map_map]
  refine (List.map_congr_left (g := id) (fun b _ => ?_)).trans (List.map_id _)
  simp
set_option maxHeartbeats 4000000 in
/-- What a record says; it lies anywhere. -/
theorem read_any (b o cap : Nat) (nm : ByteArray) (v : Int) (w : World) (hg : GoodR nm v) (hc : (recL nm v).length ≤ cap) (hcell : ∀ i x, (recL nm v)[i]? = some x → w.cell? ⟨b, o + i, none⟩ = some (.int .u8 x.toNat)) :
    Calls Tryz.prog 29 #[.slice (some ⟨b, o, none⟩) (recL nm v).length cap] w fun e w' => e = .returned (.tuple #[.string nm, .int .i64 v]) ∧ Below w.heap.size w w' := by
  have hbl := bod_len hg
  have hrl : (recL nm v).length = (bodL nm v).length + 1 := rec_len
  have hcv : (convert 60 9 (.slice (some ⟨b, o, none⟩) (bodL nm v).length cap)).run Tryz.prog w = .ok (.string (bodB nm v)) w := by
    have := run_convert_bytes_arg (P := Tryz.prog) w 60 5 Tryz.underlying60 Tryz.underlying5 b o (bodL nm v).length cap (numL (bodL nm v)) (by unfold numL; simp) (fun i hi => by
      rw [num_get _ _ hi]
      exact hcell i _ (by unfold recL; rw [List.getElem?_append_left hi, List.getElem?_eq_getElem hi])) 9 Tryz.underlying9
    rw [str_num] at this
    exact this
  have HC := hide (fun (W : World) => cut_any (bodB nm v) nm.size W (by rw [show (bodB nm v).data.toList = bodL nm v by simp [bodB]]; exact bod_cut hg) (by rw [bodB_size]; unfold bodL; rw [List.length_append, size_list, List.length_cons]; omega) (by rw [bodB_size]; omega))
  rw [bodB_name, bodB_num] at HC
  have HA := hide (fun (W : World) => Image.atoi_some { data := (Lib.itoa v).toArray } v W (by have := itoa_four hg.2.1 hg.2.2; omega) (by simpa using bod_num hg))
  rw [hrl] at hc ⊢
  generalize (bodL nm v).length = n at *
  generalize bodB nm v = s at *
  generalize ({ data := (Lib.itoa v).toArray } : ByteArray) = D at *
  have hn1 : (0 : Int) ≤ (n : Int) := by omega
  have hn2 : (n : Int) ≤ (cap : Int) := by omega
  have hn3 : ¬ cap = 0 := by omega
  clear hcell hg hrl
  go_enter Tryz.func29, Tryz.ntmps29
  go_wp2_with (first | (go_at_call 51; refine (HC.out _).mono ?_; rintro e w1 ⟨rfl, hb1⟩) | (go_at_call 52; refine (HA.out _).mono ?_; rintro e w2 ⟨rfl, hb2⟩))
  go_ret2
  exact ⟨rfl, below_on hb1 hb2⟩
end Go.Proofs.YtgnpffkfbacejaaGreatDoor.Log
