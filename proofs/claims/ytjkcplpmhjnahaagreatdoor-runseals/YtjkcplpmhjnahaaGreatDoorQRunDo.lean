/-
  Package run's (*desk).extend; what is asked of the names and numbers that a line's work is handed.
-/
import Derived.Test.YtjkcplpmhjnahaaGreatDoorQRunDesk
import Derived.Test.YtjkcplpmhjnahaaGreatDoorQRunRow
import Derived.Test.YtjkcplpmhjnahaaGreatDoorPack1
import Derived.Deep.RegionHeld3
import Derived.Deep.DeepCutAuto
namespace Go.Proofs.YtjkcplpmhjnahaaGreatDoor.Run
open Go.ChangeShapes Go.WideShapes Go.ChangeAt Go.RowKit
open Go.Proofs.YtjkcplpmhjnahaaGreatDoor.M Go.Proofs.YtjkcplpmhjnahaaGreatDoor.Image
set_option linter.unusedVariables false
set_option linter.unusedSimpArgs false

theorem tx_yes {p : ByteArray} {l : List UInt8} (h : p.data.toList = l) : (p.toList == l) = true := by rw [Lib.toList_data, h]; exact beq_self_eq_true _
theorem tx_no {p : ByteArray} {l : List UInt8} (h : ¬ p.data.toList = l) : (p.toList == l) = false := by rw [Lib.toList_data]; exact beq_eq_false_iff_ne.2 h
/-- While nothing that was there changes; while but for the desk nothing does. -/
def Kb (w W : World) : Prop := Below w.heap.size w W
theorem kb_refl (w : World) : Kb w w := Below.refl _ _
theorem kb_drew {w W : World} (h : Kb w W) : Kb w W.drew := Below.drew h
theorem kb_below {w W W' : World} (h : Kb w W) (hb : Below W.heap.size W W') : Kb w W' := below_on h hb
def Lx (w : World) (g : Nat) (SC : Nat → Prop) (W : World) : Prop := Only (DS g SC) w W
theorem lx_drew {w W : World} {g : Nat} {SC : Nat → Prop} (h : Lx w g SC W) : Lx w g SC W.drew := h
theorem lx_refl (w : World) (g : Nat) (SC : Nat → Prop) : Lx w g SC w := Only.refl _ _
theorem lx_kb {w W : World} {g : Nat} {SC : Nat → Prop} (h : Kb w W) : Lx w g SC W := Only.of_below h
theorem lx_below {w W W' : World} {g : Nat} {SC : Nat → Prop} (h : Lx w g SC W) (hb : Below W.heap.size W W') : Lx w g SC W' := Only.after h hb
/-- Numbers that can be read, whatever becomes of the desk. -/
def NumsAt (w : World) (g : Nat) (SC : Nat → Prop) (a : Option Addr) (ns : List Nat) : Prop :=
  ns = [] ∨ ∃ b off, a = some ⟨b, off, none⟩ ∧ ∀ W', Lx w g SC W' → ∀ (k : Nat) (n : Nat), ns[k]? = some n → W'.cell? ⟨b, off + k, none⟩ = some (.int .i64 n)
/-- A name that can be read, whatever becomes of the desk. -/
def NameAt (w : World) (g : Nat) (SC : Nat → Prop) (v : Value) (nm : ByteArray) : Prop :=
  ∃ b off c, v = .slice (some ⟨b, off, none⟩) 1 c ∧ ∀ W', Lx w g SC W' → W'.cell? ⟨b, off, none⟩ = some (.string nm)
theorem nums_some {w : World} {g : Nat} {SC : Nat → Prop} {a : Option Addr} {n : Nat} {ns : List Nat} (h : NumsAt w g SC a (n :: ns)) : ∃ b off, a = some ⟨b, off, none⟩ ∧ ∀ W', Lx w g SC W' → ∀ (k : Nat) (x : Nat), (n :: ns)[k]? = some x → W'.cell? ⟨b, off + k, none⟩ = some (.int .i64 x) := by
  rcases h with h | h
  · cases h
  · exact h
/-- The library's tables are there, whatever becomes of what was laid from B on. -/
def HasF (w : World) (B : Nat) : Prop := ∀ W, Below B w W → Has W
theorem Dsk.base {w W : World} {B g mb gc : Nat} {SC : Nat → Prop} {d : Dk} (h : Dsk w B g mb gc SC d) (hW : Lx w g SC W) : Below B w W :=
  Only.below hW (Nat.le_trans h.lo.1 (Nat.le_of_lt (blk_lt h.blk))) (fun k hk => by
    rcases hk with rfl | hk
    · exact h.lo.1
    · exact (h.has k (Or.inr (Or.inr hk))).1)
theorem HasF.lx {w W : World} {B g mb gc : Nat} {SC : Nat → Prop} {d : Dk} (hh : HasF w B) (h : Dsk w B g mb gc SC d) (hW : Lx w g SC W) : Has W := hh W (h.base hW)
theorem HasF.kb {w W : World} {B g mb gc : Nat} {SC : Nat → Prop} {d : Dk} (hh : HasF w B) (h : Dsk w B g mb gc SC d) (hW : Kb w W) : Has W := hh.lx h (lx_kb hW)
theorem HasF.on {w W : World} {B : Nat} (hh : HasF w B) (hW : Below B w W) : HasF W B := fun W' h => hh W' (hW.trans h)
theorem done_on {w W : World} {B g mb gc : Nat} {SC : Nat → Prop} {A : List UInt8 × Dk} {e : Ending} {w' : World} (hW : Kb w W) (h : Done W B g mb gc SC A e w') : Done w B g mb gc SC A e w' :=
  ⟨h.1, h.2.1, (Only.of_below (S := DS g SC) hW).trans h.2.2 (fun _ _ hk => hk)⟩
theorem bank_split {l : List Int} (h : l.length = 8) : ∃ b0 b1 b2 b3 b4 b5 b6 b7, l = [b0, b1, b2, b3, b4, b5, b6, b7] := by
  match l, h with
  | [b0, b1, b2, b3, b4, b5, b6, b7], _ => exact ⟨b0, b1, b2, b3, b4, b5, b6, b7, rfl⟩
theorem stp_ok (m n : Int) : isM (stp 7919 m n) = true := by
  have h1 := stp_ge 7919 m n
  have h2 := stp_lt 7919 m n
  unfold isM
  simp
  omega
theorem set_ok {xs : List Int} {i : Nat} {z : Int} (h : okAll xs = true) (hi : i < xs.length) (hz : isM z = true) : okAll (xs.set i z) = true := by
  refine okAll_of (fun k y hy => ?_)
  by_cases hk : k = i
  · subst hk
    rw [List.getElem?_set_self hi] at hy
    cases hy
    exact hz
  · rw [List.getElem?_set_ne (fun e => hk e.symm)] at hy
    exact okAll_at h hy
theorem row_at {W : World} {n : Nat} (hn : W.heap.size = n) (z : Int) (T : TypeId) : Row (W.alloc (.cells #[.int .i64 z] T)) (some ⟨n, 0, none⟩) [z] := by
  subst hn
  exact row_new W z T
set_option maxRecDepth 100000 in
set_option maxHeartbeats 4000000 in
theorem extend_any (w : World) (B g mb gc : Nat) (SC : Nat → Prop) (d : Dk) (i m : Nat) (h : Dsk w B g mb gc SC d) (hi : i < 10000000) (hm : m < 10000000) (hh : HasF w B) :
    Calls Tryz.prog 57 #[.pointer (some ⟨g, 0, none⟩), .int .i64 i, .int .i64 m] w (Done w B g mb gc SC (doL d kwExtend [] [i, m])) := by
  have HD := hide h
  have HH := hide hh
  have HAT := hide (fun j v hv => h.at j v hv)
  have HS := hide (show (bankC d.b).size = 8 by rw [bankC_size]; exact h.len)
  have EX := hide (fun W => Bank.extend_any d.b _ i m W rfl h.len)
  by_cases hx : i ≤ 7 ∧ isM m = true
  · have hext : extOk d.b i m = true := extOk_iff.2 ⟨h.ok, isReg_iff.2 ⟨by omega, by omega⟩, hx.2⟩
    rw [extE_ok hext, extV_ok hext, errV_zero, Int.toNat_natCast] at EX
    have HA : Hid (doL d kwExtend [] [i, m] = (digs (stp 7919 (d.b.getD i 0) m), { d with b := d.b.set i (stp 7919 (d.b.getD i 0) m) })) := by
      unfold doL
      rw [if_pos rfl]
      exact if_pos hx
    obtain ⟨z, hz⟩ : ∃ z, stp 7919 (d.b.getD i 0) m = z := ⟨_, rfl⟩
    have hz0 : 0 ≤ z := by rw [← hz]; exact stp_ge _ _ _
    have hz1 : z < 1000003 := by rw [← hz]; exact stp_lt _ _ _
    have hzm : isM z = true := by rw [← hz]; exact stp_ok _ _
    rw [hz] at EX HA
    have hil : i < d.b.length := by have := h.len; omega
    have HY := hide (set_ok (z := z) h.ok hil hzm)
    have HYL : Hid ((d.b.set i z).length = 8) := by show (d.b.set i z).length = 8; rw [List.length_set]; exact h.len
    have HYI : Hid ((d.b.set i z)[i]? = some z) := List.getElem?_set_self hil
    have HDN := hide (fun (w1 : World) (hb : Below w.heap.size w w1) => ext_done h hb HYL.out HY.out)
    generalize d.b.set i z = ys at *
    have HSY := hide (show (bankC ys).size = 8 by rw [bankC_size]; exact HYL.out)
    have HZ : Hid (0 ≤ z ∧ z < 1000003) := ⟨hz0, hz1⟩
    have hi8 : (i : Int) < 8 := by omega
    have hi0 : (0 : Int) ≤ i := by omega
    have HCS : Hid (1 + 8 ≤ (deskC gc d.b mb).size) := by
      show 1 + 8 ≤ (deskC gc d.b mb).size
      unfold deskC
      have := h.len
      simp
      omega
    have HGW := hide (blk_lt h.blk)
    clear h hh hext hx hz hz0 hz1 hzm hil hm hi
    go_enter Tryz.func57, Tryz.ntmps57
    go_wp2_with ((with_reducible refine wpl_loadMid 13 ?_ ?_ g 1 ?_ (bankC d.b) HAT.out HS.out ?_); rfl; rfl; rfl)
    refine (EX.out _).mono ?_
    rintro e w1 ⟨rfl, hb1⟩
    obtain ⟨k1, k2, k3, k4, k5⟩ := HDN.out w1 hb1
    have HK1 := hide (blk_new w1 (.cells #[.int .i64 0, .int .i64 0, .int .i64 0, .int .i64 0, .int .i64 0, .int .i64 0, .int .i64 0, .int .i64 0] 30))
    have HK2 := hide k1
    have HG2 := hide k2
    have hcz := bank_cell k3 HYI.out
    have HD4 := hide k4
    have HO5 := hide k5
    have HB1 := hide hb1
    clear k1 k2 k3 k4 k5 hb1 EX HDN
    go_wp2_with (first | ((with_reducible refine Bank.wpl_store 8 18 ?_ ?_ _ ?_ _ _ ?_ HK1.out Bank.noBank_size HSY.out (Bank.bankC_one ys) ?_); rfl; rfl; rfl; rfl) | ((with_reducible refine Bank.wpl_load 8 ?_ ?_ _ ?_ _ _ HK2.out HSY.out ?_); rfl; rfl; rfl) | ((with_reducible refine wpl_storeMid 26 24 ?_ ?_ g 1 ?_ _ _ _ ?_ HG2.out HSY.out HCS.out (Bank.bankC_one ys) ?_); rfl; rfl; rfl; rfl))
    refine (row_one z (some ⟨w1.heap.size + 1, 0, none⟩) 1 _ (row_at (by simp) z 3) HZ.out.1 HZ.out.2 ?_).mono ?_
    · exact HH.out.lx HD.out (Only.after HO5.out (below_new _ _))
    rintro e w2 ⟨rfl, hb2⟩
    go_wp2
    go_ret2
    refine ⟨⟨{ data := (digs z).toArray }, 0, by omega, by omega, rfl, ?_⟩, ?_, ?_⟩
    · rw [HA.out]; simp
    · rw [HA.out]; exact (HD4.out.below (below_new _ _)).below hb2
    · exact (HO5.out.after (below_new _ _)).after hb2
  · have hext : extOk d.b i m = false := by
      cases hq : extOk d.b i m with
      | false => rfl
      | true =>
        obtain ⟨_, h2, h3⟩ := extOk_iff.1 hq
        have := isReg_iff.1 h2
        exact absurd ⟨by omega, h3⟩ hx
    rw [extE_bad hext, extV_bad hext, errV_one] at EX
    have HA : Hid (doL d kwExtend [] [i, m] = (errN 1, d)) := by
      unfold doL
      rw [if_pos rfl]
      exact if_neg hx
    clear h hh hext hx hm hi
    go_enter Tryz.func57, Tryz.ntmps57
    go_wp2_with ((with_reducible refine wpl_loadMid 13 ?_ ?_ g 1 ?_ (bankC d.b) HAT.out HS.out ?_); rfl; rfl; rfl)
    refine (EX.out _).mono ?_
    rintro e w1 ⟨rfl, hb1⟩
    have HK1 := hide (blk_new w1 (.cells #[.int .i64 0, .int .i64 0, .int .i64 0, .int .i64 0, .int .i64 0, .int .i64 0, .int .i64 0, .int .i64 0] 30))
    have HB1 := hide hb1
    clear hb1 EX
    go_wp2_with ((with_reducible refine Bank.wpl_store 8 18 ?_ ?_ _ ?_ _ _ ?_ HK1.out Bank.noBank_size Bank.noBank_size Bank.noBank_one ?_); rfl; rfl; rfl; rfl)
    go_ret2
    refine done_same (t := { data := #[] }) (k := 1) HD.out (w' := _) ?_ (by omega) (by omega) rfl HA.out
    rw [World.setRow_alloc_new]
    exact below_on HB1.out (below_new _ _)
end Go.Proofs.YtjkcplpmhjnahaaGreatDoor.Run
