/-
  Contracts of package run's read (all words as numbers, or that one is none) and of slices.Contains of the empty text among one name or none.
-/
import Derived.Test.YtjkcplpmhjnahaaGreatDoorQRunRow
import Derived.Test.YtjkcplpmhjnahaaGreatDoorPack1
namespace Go.Proofs.YtjkcplpmhjnahaaGreatDoor.Run
open Go.ChangeShapes Go.WideShapes Go.ChangeAt Go.RowKit
open Go.Proofs.YtjkcplpmhjnahaaGreatDoor.M Go.Proofs.YtjkcplpmhjnahaaGreatDoor.Image
set_option linter.unusedVariables false

theorem info_int : (Tryz.prog.info? 3).map (fun i => (i.zero, i.size, i.bytes)) = some (some (.int .i64 0), 1, 8) := by kernel_rfl
/-- Words that can be read. -/
def TxtIn (W : World) (a : Option Addr) (ws : List ByteArray) : Prop := ws = [] ∨ ∃ b off, a = some ⟨b, off, none⟩ ∧ b < W.heap.size ∧ ∀ (k : Nat) x, ws[k]? = some x → W.cell? ⟨b, off + k, none⟩ = some (.string x)
theorem TxtIn.below {w w' : World} {a : Option Addr} {ws : List ByteArray} (h : TxtIn w a ws) (hb : Below w.heap.size w w') : TxtIn w' a ws := by
  rcases h with h | ⟨b, off, h1, h2, h3⟩
  · exact Or.inl h
  · exact Or.inr ⟨b, off, h1, Nat.lt_of_lt_of_le h2 hb.size, fun k x hx => (hb.cell (p := ⟨b, off + k, none⟩) h2).trans (h3 k x hx)⟩
def intL (ns : List Nat) : List Int := ns.map (fun n : Nat => (n : Int))
theorem intL_snoc (ns : List Nat) (n : Nat) : intL (ns ++ [n]) = intL ns ++ [(n : Int)] := by unfold intL; rw [List.map_append]; rfl
/-- What read answers. -/
def RdRes (bb : Addr) (B : Nat) (r : Option (List Nat)) (e : Ending) (w' : World) : Prop := match r with
  | none => e = .returned (.tuple #[.slice none 0 0, badV bb])
  | some ns => ∃ v, e = .returned (.tuple #[v, .nilIface]) ∧ Own w' B 3 v (intL ns)
set_option maxRecDepth 100000 in
set_option maxHeartbeats 4000000 in
theorem read_any (ws : List ByteArray) (a : Option Addr) (cap : Nat) (bb : Addr) (w : World) (h : TxtIn w a ws) (hz : ∀ x ∈ ws, x.size ≤ 3000) (hn : ws.length ≤ 3001) (hh : Has w) (hb : BadAt bb w) :
    Calls Tryz.prog 46 #[.slice a ws.length cap] w fun e w' => RdRes bb w.heap.size (numsL (ws.map (fun x => x.data.toList))) e w' ∧ Below w.heap.size w w' := by
  have HT := hide h
  have HZ := hide hz
  have HN := hide hn
  have HH := hide hh
  have HBD := hide hb
  have hlw : (ws.length : Int) ≤ 9223372036854775807 := by omega
  clear h hz hh hb hn
  go_enter Tryz.func46, Tryz.ntmps46
  go_wp2
  go_loopw [4, 6, 7, 8, 11] (fun s4 _ _ _ s11 wr => ∃ (k : Nat) (ns : List Nat), k ≤ ws.length ∧ s11 = .int .i64 k ∧ Hid (Own wr w.heap.size 3 s4 (intL ns)) ∧ Hid (Below w.heap.size w wr) ∧ Hid (numsL ((ws.map (fun x => x.data.toList)).take k) = some ns)) (fun _ _ _ _ i _ => ws.length - (intOf i).toNat)
  case atStart => exact ⟨0, [], by omega, rfl, Own.nil _ _ _, Below.refl _ _, rfl⟩
  case round =>
    obtain ⟨k, ns, hk, rfl, HO, HB, HNS⟩ := hrel
    by_cases hlt : k < ws.length
    · have hltz : (k : Int) < ws.length := by omega
      obtain ⟨x, hxk⟩ : ∃ x, ws[k]? = some x := ⟨_, List.getElem?_eq_getElem hlt⟩
      have hrow : ∃ b off, a = some ⟨b, off, none⟩ ∧ wr.cell? ⟨b, off + k, none⟩ = some (.string x) := by
        rcases HT.out.below HB.out with h | ⟨b, off, h1, _, h2⟩
        · rw [h] at hlt; simp at hlt
        · exact ⟨b, off, h1, h2 k x hxk⟩
      obtain ⟨b, off, rfl, hc⟩ := hrow
      have hsx := HZ.out x (List.mem_of_getElem? hxk)
      have NU := hide (fun (W : World) (hW : Below w.heap.size w W) => num_any 7 (by omega) x W (by omega) (HH.out.below hW))
      have HXM : Hid ((ws.map (fun x => x.data.toList))[k]? = some x.data.toList) := by show (ws.map (fun x => x.data.toList))[k]? = _; rw [List.getElem?_map, hxk]; rfl
      have HK : Hid (k < ws.length ∧ w.heap.size ≤ wr.heap.size) := ⟨hlt, HB.out.size⟩
      have hkw : IntKind.i64.wrap ((k : Int) + 1) = (k : Int) + 1 := wrap_mid (by omega) (by omega)
      clear hxk hsx hlt hk
      cases hq : numP x.data.toList with
      | none =>
        have e1 := (nu_none (k := 7) (s := x) (by rw [← numP_numG]; exact hq))
        rw [e1.1, e1.2] at NU
        have HST := hide (nums_stop HXM.out hq)
        clear e1 hq
        go_wp2_with (fail)
        refine (NU.out _ HB.out).mono ?_
        rintro e w5 ⟨rfl, hb5⟩
        have HB5 := hide (HB.out.trans (hb5.mono HK.out.2))
        have c5 := (HBD.out.below HB5.out).1
        clear hb5 hc NU
        rw [show errV 98 2 = .iface 98 (.int .i64 2) from rfl]
        go_wp2_with (fail)
        go_region
        all_goals
          go_wp2
          go_ret2
          exact ⟨by rw [HST.out]; exact rfl, by first | exact HB5.out | exact HB5.out.drew⟩
      | some n =>
        have e1 := (nu_some (k := 7) (s := x) (by rw [← numP_numG]; exact hq))
        rw [e1.1, e1.2, errV_zero] at NU
        have HSN := hide (nums_step HNS.out HXM.out hq)
        have HLN : Hid ((intL ns).length ≤ 3001) := by
          have h1 := numsL_len HNS.out
          show (intL ns).length ≤ 3001
          unfold intL
          rw [List.length_map, h1, List.length_take, List.length_map]
          have := HN.out
          omega
        clear e1 hq
        go_wp2_with (fail)
        refine (NU.out _ HB.out).mono ?_
        rintro e w5 ⟨rfl, hb5⟩
        have HB5 := hide (HB.out.trans (hb5.mono HK.out.2))
        have HO5 := hide (HO.out.only (Only.of_below (S := fun _ => False) hb5) (fun _ _ h => h))
        have HS5 := hide HB5.out.size
        clear hb5 hc NU
        go_wp2_with (at_builtin; refine wpList_app rfl _ _ 51 rfl w.heap.size 3 info_int Tryz.underlying51 _ (intL ns) rfl (HO5.out.alloc _) (some ⟨w5.heap.size, 0, none⟩) 1 1 [(n : Int)] rfl rfl (fun h => by cases h) (Row.one _ _ _ (by simp)) (by have := HLN.out; simp; omega) (by have := HS5.out; simp; omega) ?_; intro v' w6 ho hgr)
        go_roundw
        case rel => exact ⟨k + 1, ns ++ [n], HK.out.1, by have := HK.out.1; go_num, by rw [intL_snoc]; exact ho, (HB5.out.alloc HS5.out _).grown hgr (by have := HS5.out; simp; omega) (fun k hk => HO5.out.block k hk), HSN.out⟩
        case measure => have := HK.out.1; simp [intOf]; omega
    · have htk : (ws.map (fun x => x.data.toList)).take k = ws.map (fun x => x.data.toList) := List.take_of_length_le (by rw [List.length_map]; omega)
      rw [htk] at HNS
      have hltz : ¬ (k : Int) < ws.length := by omega
      clear htk hlt hk
      go_wp2
      go_ret2
      exact ⟨by rw [HNS.out]; exact ⟨_, rfl, HO.out⟩, HB.out⟩
set_option maxHeartbeats 1000000 in
theorem contains_nil (a : Option Addr) (c : Nat) (w : World) : Calls Tryz.prog 45 #[.slice a 0 c, .string { data := #[] }] w fun e w' => e = .returned (.bool false) ∧ w' = w := by
  have IX : Hid (∀ W, Calls Tryz.prog 55 #[.slice a 0 c, .string { data := #[] }] W fun e w' => e = .returned (.int .i64 (-1)) ∧ w' = W) := fun W => by
    go_enter Tryz.func55, Tryz.ntmps55
    go_wp2
    refine wp_loop_rounds 1 ?_
    rw [rounds_succ]
    go_wp2
    go_ret
    exact ⟨rfl, rfl⟩
  go_enter Tryz.func45, Tryz.ntmps45
  go_wp2_with (go_at_call 55; refine (IX.out _).mono ?_; rintro e w' ⟨rfl, rfl⟩)
  go_ret
  exact ⟨rfl, rfl⟩
set_option maxHeartbeats 1000000 in
theorem contains_one (b off c : Nat) (x : ByteArray) (w : World) (hc : w.cell? ⟨b, off, none⟩ = some (.string x)) : Calls Tryz.prog 45 #[.slice (some ⟨b, off, none⟩) 1 c, .string { data := #[] }] w fun e w' => e = .returned (.bool (decide (x.size = 0))) ∧ w' = w := by
  by_cases hx : x.size = 0
  · have e0 := empty_is hx
    have e1 : (([] : List UInt8) == x.toList) = true := by rw [List.isEmpty_iff.1 e0]; rfl
    have IX : Hid (∀ W, W.cell? ⟨b, off, none⟩ = some (.string x) → Calls Tryz.prog 55 #[.slice (some ⟨b, off, none⟩) 1 c, .string { data := #[] }] W fun e w' => e = .returned (.int .i64 0) ∧ w' = W) := fun W hc => by
      go_enter Tryz.func55, Tryz.ntmps55
      go_wp2
      refine wp_loop_rounds 1 ?_
      rw [rounds_succ]
      go_wp2
      go_ret
      exact ⟨rfl, rfl⟩
    have HX := hide (decide_eq_true hx)
    have IC := hide (IX.out w hc)
    clear hx IX e0 e1
    go_enter Tryz.func45, Tryz.ntmps45
    go_wp2_with (go_at_call 55; refine IC.out.mono ?_; rintro e w' ⟨rfl, rfl⟩)
    go_ret
    exact ⟨by rw [HX.out]; rfl, rfl⟩
  · have e0 := empty_not hx
    have e1 : (([] : List UInt8) == x.toList) = false := by cases hq : x.toList with
      | nil => rw [hq] at e0; cases e0
      | cons y r => rfl
    have IX : Hid (∀ W, W.cell? ⟨b, off, none⟩ = some (.string x) → Calls Tryz.prog 55 #[.slice (some ⟨b, off, none⟩) 1 c, .string { data := #[] }] W fun e w' => e = .returned (.int .i64 (-1)) ∧ w' = W) := fun W hc => by
      go_enter Tryz.func55, Tryz.ntmps55
      go_wp2
      refine wp_loop_rounds 2 ?_
      rw [rounds_succ]
      go_wp2
      rw [rounds_succ]
      go_wp2
      go_ret
      exact ⟨rfl, rfl⟩
    have HX := hide (decide_eq_false hx)
    have IC := hide (IX.out w hc)
    clear hx IX e0 e1
    go_enter Tryz.func45, Tryz.ntmps45
    go_wp2_with (go_at_call 55; refine IC.out.mono ?_; rintro e w' ⟨rfl, rfl⟩)
    go_ret
    exact ⟨by rw [HX.out]; rfl, rfl⟩
end Go.Proofs.YtjkcplpmhjnahaaGreatDoor.Run
