/-
  The walk of stairlaw2.DevicePlays: it returns true, and memory that was there stays as it was.
-/
import Derived.Test.YtojdaifnljghkabGreatDoorQDeviceOb
import Derived.Test.YtojdaifnljghkabGreatDoorQUpdRef
import Derived.Test.YtojdaifnljghkabGreatDoorQKeyRef2
import Derived.Test.YtojdaifnljghkabGreatDoorQRef2
import Derived.Test.YtojdaifnljghkabGreatDoorQRef3
import Derived.Test.YtojdaifnljghkabGreatDoorQSameEv
import Derived.Test.YtojdaifnljghkabGreatDoorQCells
import Derived.Test.YtojdaifnljghkabGreatDoorPack2
import Derived.Deep.RegionHeld3
import Derived.Deep.DeepCutAuto
import Derived.Deep.CutBlock
namespace Go.Proofs.YtojdaifnljghkabGreatDoor.DevicePlays
open Go.ChangeShapes Go.WideShapes Go.ChangeAt Go.RowKit
open Go.Proofs.YtojdaifnljghkabGreatDoor.M Go.Proofs.YtojdaifnljghkabGreatDoor.Device Go.Proofs.YtojdaifnljghkabGreatDoor.Update Go.Proofs.YtojdaifnljghkabGreatDoor.CntRef Go.Proofs.YtojdaifnljghkabGreatDoor.SlotRef Go.Proofs.YtojdaifnljghkabGreatDoor.Image
set_option linter.unusedVariables false

theorem errV_no {T : TypeId} {k : Int} (h : ¬ k = 0) : errV T k = .iface T (.int .i64 k) := if_neg h
def rnD (d : DS) : ByteArray × Int × ByteArray := if d.on = true then (d.nm, d.v, d.cd) else ({ data := #[] }, 0, { data := #[] })
def imO (m : ByteArray × Int × ByteArray) : Obj := .cells #[.string m.1, .int .i64 m.2.1, .string m.2.2] 23
section
variable {Dvc : World → Nat → Value → (Nat → Prop) → DS → Prop}
/-- The program's device, the reference's slots and counts, and what runs: things that lie apart. -/
def Q4 (LD : Core Dvc) (w0 : World) (p : Value) (S : Nat → Prop) (d : DS) (h : Nat) (t : St) (g : Nat) (v : Value) (cs : List (ByteArray × Int)) (ib : Nat) (hib : w0.heap.size ≤ ib) (m : ByteArray × Int × ByteArray) (W : World) : Prop :=
  Sep w0 w0.heap.size [dvcI LD w0.heap.size p S d, sisI w0.heap.size h t, cisI w0.heap.size g v cs, blkI w0.heap.size ib hib (imO m)] W
variable {LD : Core Dvc} {w0 W W' : World} {p v v' : Value} {S S' : Nat → Prop} {d d' : DS} {h g ib : Nat} {hib : w0.heap.size ≤ ib} {t t' : St} {cs cs' : List (ByteArray × Int)} {m m' : ByteArray × Int × ByteArray}
theorem Q4.below (hq : Q4 LD w0 p S d h t g v cs ib hib m W) (hb : Below W.heap.size W W') : Q4 LD w0 p S d h t g v cs ib hib m W' := Sep.below hq hb
theorem Q4.drew (hq : Q4 LD w0 p S d h t g v cs ib hib m W) : Q4 LD w0 p S d h t g v cs ib hib m W.drew := Sep.drew hq
theorem Q4.lo (hq : Q4 LD w0 p S d h t g v cs ib hib m W) : Below w0.heap.size w0 W := Sep.lo hq
theorem Q4.hb (hq : Q4 LD w0 p S d h t g v cs ib hib m W) : w0.heap.size ≤ W.heap.size := Sep.hb hq
theorem Q4.dv (hq : Q4 LD w0 p S d h t g v cs ib hib m W) : Dvc W w0.heap.size p S d := Sep.p0 hq
theorem Q4.s (hq : Q4 LD w0 p S d h t g v cs ib hib m W) : SIs W w0.heap.size h t := Sep.p1 hq
theorem Q4.c (hq : Q4 LD w0 p S d h t g v cs ib hib m W) : CIs W w0.heap.size g v cs := Sep.p2 hq
theorem Q4.b {nm cd : ByteArray} {z : Int} (hq : Q4 LD w0 p S d h t g v cs ib hib (nm, z, cd) W) : W.heap[ib]? = some (.cells #[.string nm, .int .i64 z, .string cd] 23) := Sep.p3 hq
theorem Q4.stepS (hq : Q4 LD w0 p S d h t g v cs ib hib m W) (hn : SIs W' w0.heap.size h t') (ho : Only (fun k => k = h) W W') : Q4 LD w0 p S d h t' g v cs ib hib m W' := Sep.step1 (i' := sisI w0.heap.size h t') hq hn ho (fun b e => Or.inl e)
theorem Q4.stepC (hq : Q4 LD w0 p S d h t g v cs ib hib m W) (hn : CIs W' w0.heap.size g v' cs') (ho : Only (cfoot g v) W W') (hf : ∀ b, cfoot g v' b → cfoot g v b ∨ W.heap.size ≤ b) : Q4 LD w0 p S d h t g v' cs' ib hib m W' := Sep.step2 (i' := cisI w0.heap.size g v' cs') hq hn ho hf
theorem Q4.stepB (hq : Q4 LD w0 p S d h t g v cs ib hib m W) (hn : W'.heap[ib]? = some (imO m')) (ho : Only (fun k => k = ib) W W') : Q4 LD w0 p S d h t g v cs ib hib m' W' := Sep.step3 (i' := blkI w0.heap.size ib hib (imO m')) hq hn ho (fun b e => Or.inl e)
end
/-- And a signed image beside them. -/
def sgO (s : Sg) : Obj := .cells #[.string s.nm, .int .i64 s.v, .string s.cd, .int .i64 s.p, .int .i64 s.a] 27
section
variable {Dvc : World → Nat → Value → (Nat → Prop) → DS → Prop}
def Q5 (LD : Core Dvc) (w0 : World) (p : Value) (S : Nat → Prop) (d : DS) (h : Nat) (t : St) (g : Nat) (v : Value) (cs : List (ByteArray × Int)) (ib : Nat) (hib : w0.heap.size ≤ ib) (m : ByteArray × Int × ByteArray) (wb : Nat) (hwb : w0.heap.size ≤ wb) (s : Sg) (W : World) : Prop :=
  Sep w0 w0.heap.size [dvcI LD w0.heap.size p S d, sisI w0.heap.size h t, cisI w0.heap.size g v cs, blkI w0.heap.size ib hib (imO m), blkI w0.heap.size wb hwb (sgO s)] W
variable {LD : Core Dvc} {w0 W W' : World} {p v v' : Value} {S S' : Nat → Prop} {d d' : DS} {h g ib wb : Nat} {hib : w0.heap.size ≤ ib} {hwb : w0.heap.size ≤ wb} {t t' : St} {cs cs' : List (ByteArray × Int)} {m m' : ByteArray × Int × ByteArray} {s s' : Sg}
theorem Q4.more (hq : Q4 LD w0 p S d h t g v cs ib hib m W) (hw : w0.heap.size ≤ W.heap.size) (s : Sg) : Q5 LD w0 p S d h t g v cs ib hib m W.heap.size hw s (W.alloc (sgO s)) :=
  (Sep.allocz hq hw (sgO s)).perm (List.perm_append_comm (l₁ := [_]) (l₂ := [_, _, _, _]))
theorem Q5.less (hq : Q5 LD w0 p S d h t g v cs ib hib m wb hwb s W) : Q4 LD w0 p S d h t g v cs ib hib m W :=
  (Sep.perm hq (List.perm_append_comm (l₁ := [_, _, _, _]) (l₂ := [_]))).tail
theorem Q5.below (hq : Q5 LD w0 p S d h t g v cs ib hib m wb hwb s W) (hb : Below W.heap.size W W') : Q5 LD w0 p S d h t g v cs ib hib m wb hwb s W' := Sep.below hq hb
theorem Q5.drew (hq : Q5 LD w0 p S d h t g v cs ib hib m wb hwb s W) : Q5 LD w0 p S d h t g v cs ib hib m wb hwb s W.drew := Sep.drew hq
theorem Q5.lo (hq : Q5 LD w0 p S d h t g v cs ib hib m wb hwb s W) : Below w0.heap.size w0 W := Sep.lo hq
theorem Q5.b (hq : Q5 LD w0 p S d h t g v cs ib hib m wb hwb s W) : W.heap[wb]? = some (.cells #[.string s.nm, .int .i64 s.v, .string s.cd, .int .i64 s.p, .int .i64 s.a] 27) := Sep.ok hq _ (List.mem_cons_of_mem _ (List.mem_cons_of_mem _ (List.mem_cons_of_mem _ (List.mem_cons_of_mem _ (List.mem_cons_self ..)))))
theorem Q5.sl (hq : Q5 LD w0 p S d h t g v cs ib hib m wb hwb s W) : SIs W w0.heap.size h t := Sep.p1 hq
theorem Q5.c (hq : Q5 LD w0 p S d h t g v cs ib hib m wb hwb s W) : CIs W w0.heap.size g v cs := Sep.p2 hq
theorem Q5.stepS (hq : Q5 LD w0 p S d h t g v cs ib hib m wb hwb s W) (hn : SIs W' w0.heap.size h t') (ho : Only (fun k => k = h) W W') : Q5 LD w0 p S d h t' g v cs ib hib m wb hwb s W' := Sep.step1 (i' := sisI w0.heap.size h t') hq hn ho (fun b e => Or.inl e)
theorem Q5.stepW (hq : Q5 LD w0 p S d h t g v cs ib hib m wb hwb s W) (hn : W'.heap[wb]? = some (sgO s')) (ho : Only (fun k => k = wb) W W') : Q5 LD w0 p S d h t g v cs ib hib m wb hwb s' W' :=
  (Sep.step (i' := blkI w0.heap.size wb hwb (sgO s')) (Sep.perm hq (List.perm_append_comm (l₁ := [_, _, _, _]) (l₂ := [_]))) hn ho (fun b e => Or.inl e)).perm (List.perm_append_comm (l₁ := [_]) (l₂ := [_, _, _, _]))
theorem q5_S (hq : Q5 LD w0 p S d h t g v cs ib hib m wb hwb s W) : W.cell? ⟨wb, 0, none⟩ = some (.string s.nm) ∧ W.cell? ⟨wb, 1, none⟩ = some (.int .i64 s.v) ∧ W.cell? ⟨wb, 2, none⟩ = some (.string s.cd) ∧ W.cell? ⟨wb, 3, none⟩ = some (.int .i64 s.p) ∧ W.cell? ⟨wb, 4, none⟩ = some (.int .i64 s.a) := cells5 hq.b
end
/-- And a quote and a bank beside them. -/
def quO (q : Int × Int × Int × Int × Int) : Obj := .cells #[.int .i64 q.1, .int .i64 q.2.1, .int .i64 q.2.2.1, .int .i64 q.2.2.2.1, .int .i64 q.2.2.2.2] 45
section
variable {Dvc : World → Nat → Value → (Nat → Prop) → DS → Prop}
def Q6 (LD : Core Dvc) (w0 : World) (p : Value) (S : Nat → Prop) (d : DS) (h : Nat) (t : St) (g : Nat) (v : Value) (cs : List (ByteArray × Int)) (ib : Nat) (hib : w0.heap.size ≤ ib) (m : ByteArray × Int × ByteArray) (qb : Nat) (hqb : w0.heap.size ≤ qb) (q : Int × Int × Int × Int × Int) (kb : Nat) (hkb : w0.heap.size ≤ kb) (bs : List Int) (W : World) : Prop :=
  Sep w0 w0.heap.size [dvcI LD w0.heap.size p S d, sisI w0.heap.size h t, cisI w0.heap.size g v cs, blkI w0.heap.size ib hib (imO m), blkI w0.heap.size qb hqb (quO q), blkI w0.heap.size kb hkb (.cells (bankC bs) 67)] W
variable {LD : Core Dvc} {w0 W W' : World} {p v v' : Value} {S S' : Nat → Prop} {d d' : DS} {h g ib qb kb : Nat} {hib : w0.heap.size ≤ ib} {hqb : w0.heap.size ≤ qb} {hkb : w0.heap.size ≤ kb} {t t' : St} {cs cs' : List (ByteArray × Int)} {m m' : ByteArray × Int × ByteArray} {q q' : Int × Int × Int × Int × Int} {bs bs' : List Int}
theorem Q6.less (hq : Q6 LD w0 p S d h t g v cs ib hib m qb hqb q kb hkb bs W) : Q4 LD w0 p S d h t g v cs ib hib m W :=
  (Sep.perm hq (List.perm_append_comm (l₁ := [_, _, _, _]) (l₂ := [_, _]))).tail.tail
theorem Q6.below (hq : Q6 LD w0 p S d h t g v cs ib hib m qb hqb q kb hkb bs W) (hb : Below W.heap.size W W') : Q6 LD w0 p S d h t g v cs ib hib m qb hqb q kb hkb bs W' := Sep.below hq hb
theorem Q6.lo (hq : Q6 LD w0 p S d h t g v cs ib hib m qb hqb q kb hkb bs W) : Below w0.heap.size w0 W := Sep.lo hq
theorem Q6.hb (hq : Q6 LD w0 p S d h t g v cs ib hib m qb hqb q kb hkb bs W) : w0.heap.size ≤ W.heap.size := Sep.hb hq
theorem Q6.r {nm cd : ByteArray} {z : Int} (hq : Q6 LD w0 p S d h t g v cs ib hib (nm, z, cd) qb hqb q kb hkb bs W) : W.heap[ib]? = some (.cells #[.string nm, .int .i64 z, .string cd] 23) := Sep.p3 hq
theorem Q6.qo {q0 q1 q2 q3 q4 : Int} (hq : Q6 LD w0 p S d h t g v cs ib hib m qb hqb (q0, q1, q2, q3, q4) kb hkb bs W) : W.heap[qb]? = some (.cells #[.int .i64 q0, .int .i64 q1, .int .i64 q2, .int .i64 q3, .int .i64 q4] 45) := Sep.ok hq _ (List.mem_cons_of_mem _ (List.mem_cons_of_mem _ (List.mem_cons_of_mem _ (List.mem_cons_of_mem _ (List.mem_cons_self ..)))))
theorem Q6.bk (hq : Q6 LD w0 p S d h t g v cs ib hib m qb hqb q kb hkb bs W) : W.heap[kb]? = some (.cells (bankC bs) 67) := Sep.ok hq _ (List.mem_cons_of_mem _ (List.mem_cons_of_mem _ (List.mem_cons_of_mem _ (List.mem_cons_of_mem _ (List.mem_cons_of_mem _ (List.mem_cons_self ..))))))
theorem Q6.stepQ (hq : Q6 LD w0 p S d h t g v cs ib hib m qb hqb q kb hkb bs W) (hn : W'.heap[qb]? = some (quO q')) (ho : Only (fun k => k = qb) W W') : Q6 LD w0 p S d h t g v cs ib hib m qb hqb q' kb hkb bs W' :=
  (Sep.step (i' := blkI w0.heap.size qb hqb (quO q')) (Sep.perm hq (List.perm_append_comm (l₁ := [_, _, _, _]) (l₂ := [_, _]))) hn ho (fun b e => Or.inl e)).perm (List.perm_append_comm (l₁ := [_, _]) (l₂ := [_, _, _, _]))
theorem Q6.stepK (hq : Q6 LD w0 p S d h t g v cs ib hib m qb hqb q kb hkb bs W) (hn : W'.heap[kb]? = some (.cells (bankC bs') 67)) (ho : Only (fun k => k = kb) W W') : Q6 LD w0 p S d h t g v cs ib hib m qb hqb q kb hkb bs' W' :=
  (Sep.step1 (i' := blkI w0.heap.size kb hkb (.cells (bankC bs') 67)) (Sep.perm hq (List.perm_append_comm (l₁ := [_, _, _, _]) (l₂ := [_, _]))) hn ho (fun b e => Or.inl e)).perm (List.perm_append_comm (l₁ := [_, _]) (l₂ := [_, _, _, _]))
theorem Q4.six (hq : Q4 LD w0 p S d h t g v cs ib hib m W) : ∃ hqb hkb, Q6 LD w0 p S d h t g v cs ib hib m W.heap.size hqb (0, 0, 0, 0, 0) (W.heap.size + 1) hkb noBank ((W.alloc (.cells #[.int .i64 0, .int .i64 0, .int .i64 0, .int .i64 0, .int .i64 0] 45)).alloc (.cells #[.int .i64 0, .int .i64 0, .int .i64 0, .int .i64 0, .int .i64 0, .int .i64 0, .int .i64 0, .int .i64 0] 67)) := by
  have e1 := Sep.allocz hq hq.hb (.cells #[.int .i64 0, .int .i64 0, .int .i64 0, .int .i64 0, .int .i64 0] 45)
  have hz := e1.hb
  have e2 := e1.allocz hz (.cells #[.int .i64 0, .int .i64 0, .int .i64 0, .int .i64 0, .int .i64 0, .int .i64 0, .int .i64 0, .int .i64 0] 67)
  have e3 := (e2.perm (List.Perm.swap _ _ _)).perm (List.perm_append_comm (l₁ := [_, _]) (l₂ := [_, _, _, _]))
  have key : ∀ kb, kb = (W.alloc (.cells #[.int .i64 0, .int .i64 0, .int .i64 0, .int .i64 0, .int .i64 0] 45)).heap.size → ∃ hqb hkb, Q6 LD w0 p S d h t g v cs ib hib m W.heap.size hqb (0, 0, 0, 0, 0) kb hkb noBank ((W.alloc (.cells #[.int .i64 0, .int .i64 0, .int .i64 0, .int .i64 0, .int .i64 0] 45)).alloc (.cells #[.int .i64 0, .int .i64 0, .int .i64 0, .int .i64 0, .int .i64 0, .int .i64 0, .int .i64 0, .int .i64 0] 67)) := by
    rintro kb rfl
    exact ⟨hq.hb, hz, e3⟩
  exact key _ (by simp)
end
/-- The image of a signed image that is a value. -/
theorem field_image (nm cd : ByteArray) (v p a : Int) (W : World) : Sem.run Tryz.prog (Instr.field 27 (.agg #[.string nm, .int .i64 v, .string cd, .int .i64 p, .int .i64 a]) 0) W = .ok (.agg #[.string nm, .int .i64 v, .string cd]) W := by kernel_rfl
theorem ev_row {W : World} {b : Nat} {a m : Int} {t : TypeId} {fr : Nat × Nat} (h : W.heap[b]? = some (.cells #[.int .i64 a, .int .i64 m] t fr)) : RRow 2 evV W (some ⟨b, 0, none⟩) [(a, m)] := by
  refine Or.inr ⟨b, 0, rfl, fun k x hx j v hv => ?_⟩
  match k, hx with
  | 0, hx =>
    simp at hx
    subst hx
    rw [cell_of_row _ _ _ _ _ _ h]
    match j, hv with
    | 0, hv => simpa [evV] using hv
    | 1, hv => simpa [evV] using hv
    | j + 2, hv => simp [evV] at hv
  | k + 1, hx => simp at hx
/-- On trial is just what is not the one that is good. -/
theorem trial_pick {d : DS} (h : OkT d.t) : trialD d = (idx (pickT d.t) != idx (safeT d.t)) := by
  unfold trialD
  have hp : pickT d.t = safeT d.t ∨ pickT d.t = !safeT d.t := by unfold pickT; split; exact Or.inr rfl; exact Or.inl rfl
  rcases hp with e | e
  · rw [e, h.good]
    simp
  · rw [e, h.one]
    cases safeT d.t <;> rfl

set_option maxRecDepth 20000 in
set_option maxHeartbeats 8000000 in
theorem walk {Dvc : World → Nat → Value → (Nat → Prop) → DS → Prop} (LD : Core Dvc) (UL : UpdateLaw Dvc) (SL : StartLaw Dvc) (GL : GoodLaw Dvc) (TL : TellLaw Dvc) (RL : RunsLaw Dvc)
    (root x : Int) (first : Sg) (a3 : Option Addr) (n3 c3 : Nat) (ds : List Int) (a4 : Option Addr) (n4 c4 : Nat) (l : List (Int × Int × Int)) (a5 : Option Addr) (n5 c5 : Nat) (xs : List Sg) (k mask : Int) (w : World)
    (hs : szS first) (hn3 : n3 = ds.length) (hm3 : n3 ≤ maxLen) (hr3 : Row w a3 ds) (hn4 : n4 = l.length) (hm4 : n4 ≤ maxLen) (hr4 : RRow 3 certV w a4 l) (hn5 : n5 = xs.length) (hm5 : n5 ≤ maxLen) (hr5 : RRow 5 sgV w a5 xs) (hs5 : ∀ s ∈ xs, szS s) (hh : Has w) (hg : As.Handle w) :
    Calls Tryz.prog 4 #[.int .i64 root, .int .i64 x, sgA first, .slice a3 n3 c3, .slice a4 n4 c4, .slice a5 n5 c5, .int .i64 k, .int .i64 mask] w fun e w' => e = .returned (.bool true) ∧ Below w.heap.size w w' := by
  have HLD := hide LD
  have HUL := hide UL
  have HSL := hide SL
  have HGL := hide GL
  have HTL := hide TL
  have HRL := hide RL
  have HH := hide (fun (W : World) (h : Below w.heap.size w W) => hh.below h)
  have HG := hide (fun (W : World) (h : Below w.heap.size w W) => hg.below h)
  have HSZ := hide hs
  have HN3 := hide hn3
  have HR3 := hide hr3
  have HN4 := hide hn4
  have HM4 := hide hm4
  have HR4 := hide hr4
  have HN5 := hide hn5
  have HR5 := hide hr5
  have HS5 := hide hs5
  have hm3' : n3 ≤ 9223372036854775807 := by unfold maxLen at hm3; omega
  have hm5' : n5 ≤ 9223372036854775807 := by unfold maxLen at hm5; omega
  obtain ⟨fn, fv, fc, fp, fa⟩ := first
  have NO := hide (fun (W : World) (h : ¬ dvcE root x ⟨fn, fv, fc, fp, fa⟩ = 0) => LD.newNo root x ⟨fn, fv, fc, fp, fa⟩ W hs h)
  have NW := hide (fun (W : World) (h : M.Sep w w.heap.size [blkI w.heap.size w.heap.size (Nat.le_refl _) (.cells #[.string fn, .int .i64 fv, .string fc, .int .i64 fp, .int .i64 fa] 27)] W) (hE : dvcE root x ⟨fn, fv, fc, fp, fa⟩ = 0) => Device.sep_new HLD.out root x ⟨fn, fv, fc, fp, fa⟩ hs hE h)
  have IC := hide (fun (W : World) => Ref.image_any fn fc fv W hs.1 hs.2)
  have NR := hide (fun (W : World) => new_any ⟨fn, fv, fc, fp, fa⟩ W)
  unfold imgC at IC
  unfold sgA at NO NW NR ⊢
  simp only [] at NO NW NR ⊢
  have HS0 : Hid (M.Sep w w.heap.size [blkI w.heap.size w.heap.size (Nat.le_refl _) (.cells #[.string fn, .int .i64 fv, .string fc, .int .i64 fp, .int .i64 fa] 27)] (w.alloc (.cells #[.string fn, .int .i64 fv, .string fc, .int .i64 fp, .int .i64 fa] 27))) := (Sep.nil (Below.refl _ _) (Nat.le_refl _)).allocz (Nat.le_refl _) _
  clear LD UL SL GL TL RL hs hn3 hm3 hr3 hn4 hm4 hr4 hn5 hm5 hr5 hs5 hh hg
  by_cases hE : dvcE root x ⟨fn, fv, fc, fp, fa⟩ = 0
  · obtain ⟨b1, b2, b3⟩ := dvcE_zero hE
    have b3' : imgE fn fv fc = 0 := b3
    rw [b3'] at IC
    have NW1 := hide (fun (W : World) h => NW.out W h hE)
    clear NO NW hE b3 b3'
    have hsg : (w.alloc (.cells #[.string fn, .int .i64 fv, .string fc, .int .i64 fp, .int .i64 fa] 27)).heap[w.heap.size]? = some (.cells #[.string fn, .int .i64 fv, .string fc, .int .i64 fp, .int .i64 fa] 27) := HS0.out.p0
    obtain ⟨q0, q1, q2, q3, q4⟩ := cells5 hsg
    clear hsg
    go_enter Tryz.func4, Tryz.ntmps4
    go_wp2_with (first
      | (go_at_call 17; refine (Ref.in_any _ _).mono ?_; rintro e wz ⟨rfl, hw⟩; rw [hw]; clear hw)
      | (go_at_call 18; refine (Ref.secret_any _ _).mono ?_; rintro e wz ⟨rfl, hw⟩; rw [hw]; clear hw))
    refine (IC.out _).mono ?_
    rintro e w1 ⟨rfl, hb1⟩
    have HS1 := hide (HS0.out.below hb1)
    clear hb1 HS0 IC q0 q1 q2 q3 q4
    have hsg : w1.heap[w.heap.size]? = some (.cells #[.string fn, .int .i64 fv, .string fc, .int .i64 fp, .int .i64 fa] 27) := HS1.out.p0
    obtain ⟨q0, q1, q2, q3, q4⟩ := cells5 hsg
    clear hsg
    go_wp2_with (fail)
    refine (NW1.out _ HS1.out).mono ?_
    rintro e w2 ⟨p, S0, rfl, hd2⟩
    have HS2 := hide hd2
    clear hd2 HS1 NW1 q0 q1 q2 q3 q4
    have hsg : w2.heap[w.heap.size]? = some (.cells #[.string fn, .int .i64 fv, .string fc, .int .i64 fp, .int .i64 fa] 27) := HS2.out.p1
    obtain ⟨q0, q1, q2, q3, q4⟩ := cells5 hsg
    clear hsg
    go_wp2_with (fail)
    refine (As.same_nil _ _).mono ?_
    rintro e w2' ⟨rfl, hw⟩
    rw [hw]
    clear hw
    go_wp2_with (fail)
    refine (NR.out _).mono ?_
    rintro e w3 ⟨h, rfl, hm3, hg3, hb3⟩
    have HS3 := hide ((HS2.out.perm (List.Perm.swap _ _ _)).tail.add (i := sisI w.heap.size h (newT ⟨fn, fv, fc, fp, fa⟩)) hb3 ⟨hm3.1, Nat.le_trans HS2.out.hb hm3.2⟩ (fun b e => by rw [show b = h from e]; exact hg3))
    clear hm3 hg3 hb3 HS2 NR q0 q1 q2 q3 q4
    have HQ0 : Hid (∀ o, ∃ hib, Q4 HLD.out w p S0 (newD root x ⟨fn, fv, fc, fp, fa⟩) h (newT ⟨fn, fv, fc, fp, fa⟩) w3.heap.size (.slice none 0 0) [] (w3.heap.size + 1) hib o ((w3.alloc (.cells #[.slice none 0 0] 61)).alloc (imO o))) := fun o => by
      have e2 := Sep.add (i := cisI w.heap.size w3.heap.size (.slice none 0 0) []) HS3.out (below_new w3 (.cells #[.slice none 0 0] 61)) ⟨blk_new _ _, OwnR.nil _ _ _, by simp [Value.ownBlock], HS3.out.hb, by simp, by simp, by simp⟩ (fun b hb => by
        rcases hb with h | h
        · omega
        · cases h)
      have hz := e2.hb
      have e4 := (e2.allocz hz (imO o)).perm ((List.reverse_perm _).symm)
      have key : ∀ ib, ib = (w3.alloc (.cells #[.slice none 0 0] 61)).heap.size → ∃ hib, Q4 HLD.out w p S0 (newD root x ⟨fn, fv, fc, fp, fa⟩) h (newT ⟨fn, fv, fc, fp, fa⟩) w3.heap.size (.slice none 0 0) [] ib hib o ((w3.alloc (.cells #[.slice none 0 0] 61)).alloc (imO o)) := by
        rintro ib rfl
        exact ⟨hz, e4⟩
      exact key _ (by simp)
    obtain ⟨hib, hQ1⟩ := HQ0.out ({ data := #[] }, 0, { data := #[] })
    have HQ1 : Hid (Q4 HLD.out w p S0 (newD root x ⟨fn, fv, fc, fp, fa⟩) h (newD root x ⟨fn, fv, fc, fp, fa⟩).t w3.heap.size (.slice none 0 0) [] (w3.heap.size + 1) hib (rnD (newD root x ⟨fn, fv, fc, fp, fa⟩)) ((w3.alloc (.cells #[.slice none 0 0] 61)).alloc (.cells #[.string { data := #[] }, .int .i64 0, .string { data := #[] }] 23))) := hQ1
    have HD1 := hide (show (newD root x ⟨fn, fv, fc, fp, fa⟩).root = root ∧ (newD root x ⟨fn, fv, fc, fp, fa⟩).x = x ∧ (newD root x ⟨fn, fv, fc, fp, fa⟩).f = ofC [] ∧ (newD root x ⟨fn, fv, fc, fp, fa⟩).k = ([] : List (ByteArray × Int)).length ∧ (newD root x ⟨fn, fv, fc, fp, fa⟩).on = false from ⟨rfl, rfl, rfl, rfl, rfl⟩)
    clear HS3 HQ0 hQ1
    generalize newD root x ⟨fn, fv, fc, fp, fa⟩ = d0 at *
    go_wp2
    generalize w3.heap.size = g at *
    generalize g + 1 = ib at *
    go_loopw [17, 22, 25, 27, 28, 29, 30, 31, 32, 33, 34, 35, 36, 37, 38, 39, 40, 41, 100, 123, 140] (fun _ _ s25 s27 s28 _ _ _ _ _ _ _ _ _ _ _ _ _ _ _ _ wr => ∃ (i j : Nat) (S : Nat → Prop) (d : DS) (v : Value) (cs : List (ByteArray × Int)), i ≤ 50 ∧ j ≤ i ∧ s25 = .bool d.on ∧ s27 = .int .i64 j ∧ s28 = .int .i64 i ∧ Hid (Q4 HLD.out w p S d h d.t g v cs ib hib (rnD d) wr) ∧ Hid (d.root = root ∧ d.x = x ∧ d.f = ofC cs ∧ d.k = cs.length)) (fun _ _ _ _ s28 _ _ _ _ _ _ _ _ _ _ _ _ _ _ _ _ _ => 50 - (intOf s28).toNat)
    case atStart => exact ⟨0, 0, S0, d0, _, [], by omega, by omega, by rw [HD1.out.2.2.2.2], rfl, rfl, HQ1.out, ⟨HD1.out.1, HD1.out.2.1, HD1.out.2.2.1, HD1.out.2.2.2.1⟩⟩
    case round =>
      obtain ⟨i, j, S, d, v, cs, h50, hj, rfl, rfl, rfl, HQ, HP⟩ := hrel
      clear HD1 HQ1
      have HOK := hide (HLD.out.ok HQ.out.dv)
      by_cases hlt : i < n3 ∧ i < 50
      · obtain ⟨hin, hi50⟩ := hlt
        have hinz : (i : Int) < n3 := by omega
        have hi50z : (i : Int) < 50 := by omega
        obtain ⟨y, hy⟩ : ∃ y, ds[i]? = some y := ⟨ds[i]'(by have := HN3.out; omega), List.getElem?_eq_getElem (by have := HN3.out; omega)⟩
        obtain ⟨b3, o3, rfl, hcell⟩ : ∃ b off, a3 = some ⟨b, off, none⟩ ∧ wr.cell? ⟨b, off + i, none⟩ = some (.int .i64 y) := by
          rcases HR3.out.below HQ.out.lo with h | ⟨b, off, h1, h2⟩
          · rw [h] at hy; simp at hy
          · exact ⟨b, off, h1, h2 i y hy⟩
        clear hy
        go_upto_block 2 with (fail)
        go_cut [17, 22, 25, 27, 29, 30, 31, 32, 33, 34, 35, 36, 37, 38] from 74 to 219 (fun _ s22 s25 s27 _ _ _ _ _ _ _ _ _ _ w' => s22 = .bool true ∧ ∃ (j : Nat) (S : Nat → Prop) (d : DS) (v : Value) (cs : List (ByteArray × Int)), j ≤ i + 1 ∧ s25 = .bool d.on ∧ s27 = .int .i64 j ∧ Hid (Q4 HLD.out w p S d h d.t g v cs ib hib (rnD d) w') ∧ Hid (d.root = root ∧ d.x = x ∧ d.f = ofC cs ∧ d.k = cs.length))
        case first =>
          by_cases hy0 : y = 0
          · as_aux_lemma =>
            subst hy0
            have hqz := HQ.out.hb
            obtain ⟨wb, hwbe⟩ : ∃ wb, wb = wr.heap.size := ⟨_, rfl⟩
            have hwb : w.heap.size ≤ wb := by rw [hwbe]; exact hqz
            have HWB := hide hwbe
            have HM := hide (show ∀ s, Q5 HLD.out w p S d h d.t g v cs ib hib (rnD d) wb hwb s (wr.alloc (sgO s)) from fun s => by subst hwbe; exact HQ.out.more _ s)
            have hlo := HQ.out.lo
            clear hwbe hqz
            go_upto_if 105 with (fail)
            rw [← HWB.out]
            go_cut [27, 105] from 74 to 219 (fun s27 _ w' => ∃ (j : Nat) (s : Sg), j ≤ i + 1 ∧ s27 = .int .i64 j ∧ Hid (szS s) ∧ Hid (Q5 HLD.out w p S d h d.t g v cs ib hib (rnD d) wb hwb s w'))
            case first =>
              by_cases h5 : j < n5
              · have h5z : (j : Int) < n5 := by omega
                obtain ⟨⟨nm, z, cd, pp, aa⟩, hx⟩ : ∃ y, xs[j]? = some y := ⟨xs[j]'(by have := HN5.out; omega), List.getElem?_eq_getElem (by have := HN5.out; omega)⟩
                have HSS := hide (HS5.out _ (List.mem_of_getElem? hx))
                obtain ⟨b5, o5, rfl, hc5⟩ := (HR5.out.below (below_on hlo (below_new wr (sgO noSg)))).at hx
                have c0 := hc5 0 _ rfl
                have c1 := hc5 1 _ rfl
                have c2 := hc5 2 _ rfl
                have c3 := hc5 3 _ rfl
                have c4 := hc5 4 _ rfl
                unfold sgO noSg at c0 c1 c2 c3 c4
                simp only [Nat.add_zero] at c0 c1 c2 c3 c4
                have hT0 := HM.out noSg
                have HT0 := hide hT0
                have hB0 : (wr.alloc (.cells #[.string { data := #[] }, .int .i64 0, .string { data := #[] }, .int .i64 0, .int .i64 0] 27)).heap[wb]? = some (.cells #[.string { data := #[] }, .int .i64 0, .string { data := #[] }, .int .i64 0, .int .i64 0] 27) := hT0.b
                have HB0 := hide hB0
                obtain ⟨z0, z1, z2, z3, z4⟩ := quin_cells hB0
                obtain ⟨f0, f1, f2, f3, f4⟩ := quin_free hB0
                clear hx hc5 hT0 hB0
                go_wp2
                rw [quin_set HB0.out]
                go_meet
                exact ⟨j + 1, ⟨nm, z, cd, pp, aa⟩, by omega, by go_num, HSS, HT0.out.stepW (s' := ⟨nm, z, cd, pp, aa⟩) (setRow_heap _ _ _ _ _ _ HB0.out) ((Only.refl (fun k => k = wb) _).setRow (b := wb) rfl _)⟩
              · have h5z : ¬ (j : Int) < n5 := by omega
                go_wp2
                go_meet
                exact ⟨j, noSg, by omega, rfl, ⟨by show (0 : Nat) ≤ _; omega, by show (0 : Nat) ≤ _; omega⟩, HM.out noSg⟩
            case rest =>
            obtain ⟨j2, s, hj2, rfl, HSS, HT⟩ := hcut
            clear HM HQ hcell hlo
            have HR2 : Hid (upeD d l s = doE root l (ofC cs) d.t s ∧ (updD d l s).t = doT root l (ofC cs) d.t s ∧ (updD d l s).on = d.on ∧ rnD (updD d l s) = rnD d ∧ (updD d l s).root = root ∧ (updD d l s).x = x ∧ (updD d l s).f = ofC cs ∧ (updD d l s).k = cs.length) := by
              refine ⟨?_, ?_, rfl, rfl, HP.out.1, HP.out.2.1, HP.out.2.2.1, HP.out.2.2.2⟩
              · show doE d.root l d.f d.t s = _; rw [HP.out.1, HP.out.2.2.1]
              · show doT d.root l d.f d.t s = _; rw [HP.out.1, HP.out.2.2.1]
            have UP := hide (fun (W : World) (t : St) (hq : Q5 HLD.out w p S d h t g v cs ib hib (rnD d) wb hwb s W) => sep_upd HUL.out hq a4 l n4 c4 s HN4.out HM4.out (HR4.out.below hq.lo) HSS.out (HH.out _ hq.lo))
            have DR := hide (fun (W : World) (S : Nat → Prop) (d' : DS) (hq : Q5 HLD.out w p S d' h d.t g v cs ib hib (rnD d) wb hwb s W) => UpdRef.do_any root a4 l n4 c4 g v cs h d.t s W w.heap.size HN4.out HM4.out (HR4.out.below hq.lo) hq.c hq.sl HOK.out.2.2.2.1 HSS.out)
            rw [HR2.out.1] at UP
            unfold sgA at UP DR
            generalize doE root l (ofC cs) d.t s = ue at *
            generalize doT root l (ofC cs) d.t s = t1 at *
            generalize updD d l s = d1 at *
            have hDD := HT.out
            obtain ⟨x0, x1, x2, x3, x4⟩ := q5_S hDD
            go_wp2_with (fail)
            go_region_held3 (fun W => W.cell? ⟨wb, 0, none⟩ = some (.string s.nm) ∧ W.cell? ⟨wb, 1, none⟩ = some (.int .i64 s.v) ∧ W.cell? ⟨wb, 2, none⟩ = some (.string s.cd) ∧ W.cell? ⟨wb, 3, none⟩ = some (.int .i64 s.p) ∧ W.cell? ⟨wb, 4, none⟩ = some (.int .i64 s.a))
              (exact q5_S (by repeat (first | assumption | apply Q5.drew)))
              (first
                | (go_at_call 21; have hx := hD5; refine (DR.out _ S5 d1 (by repeat (first | exact hx | apply Q5.drew))).mono ?_; rintro e w6 ⟨rfl, h61, h62⟩; have hD6 : Q5 HLD.out w p S5 d1 h t1 g v cs ib hib (rnD d) wb hwb s w6 := Q5.stepS (S := S5) (d := d1) (t := d.t) (by repeat (first | exact hx | apply Q5.drew)) h61 h62; clear h61 h62 hx; obtain ⟨x60, x61, x62, x63, x64⟩ := q5_S hD6)
                | (go_at_call 21; refine (DR.out _ S d (by repeat (first | exact hDD | apply Q5.drew))).mono ?_; rintro e w6 ⟨rfl, h61, h62⟩; have hD6 : Q5 HLD.out w p S d h t1 g v cs ib hib (rnD d) wb hwb s w6 := Q5.stepS (S := S) (d := d) (t := d.t) (by repeat (first | exact hDD | apply Q5.drew)) h61 h62; clear h61 h62; obtain ⟨x60, x61, x62, x63, x64⟩ := q5_S hD6)
                | (go_at_call 13; have hx := hD6; refine (UP.out _ t1 (by repeat (first | exact hx | apply Q5.drew))).mono ?_; rintro e w5 ⟨S5, rfl, hd5⟩; have hD5 : Q5 HLD.out w p S5 d1 h t1 g v cs ib hib (rnD d) wb hwb s w5 := hd5; clear hd5 hx; obtain ⟨x50, x51, x52, x53, x54⟩ := q5_S hD5)
                | (go_at_call 13; refine (UP.out _ d.t (by repeat (first | exact hDD | apply Q5.drew))).mono ?_; rintro e w5 ⟨S5, rfl, hd5⟩; have hD5 : Q5 HLD.out w p S5 d1 h d.t g v cs ib hib (rnD d) wb hwb s w5 := hd5; clear hd5; obtain ⟨x50, x51, x52, x53, x54⟩ := q5_S hD5)
                | (go_at_call 10; refine (As.same_is _ _ _ rfl (HG.out _ (Q5.lo (S := S5) (d := d1) (t := t1) (by repeat (first | exact hD6 | exact hD5 | apply Q5.drew))))).mono ?_; rintro e w7 ⟨rfl, hb7⟩; have hD7 : Q5 HLD.out w p S5 d1 h t1 g v cs ib hib (rnD d) wb hwb s w7 := Q5.below (S := S5) (d := d1) (t := t1) (by repeat (first | exact hD6 | exact hD5 | apply Q5.drew)) hb7; clear hb7; obtain ⟨x70, x71, x72, x73, x74⟩ := q5_S hD7))
            all_goals
              go_wp2
              go_meet
              exact ⟨rfl, j2, _, d1, v, cs, by omega, by rw [HR2.out.2.2.1], rfl, (by rw [HR2.out.2.1, HR2.out.2.2.2.1]; exact Q5.less (by repeat (first | exact hD7 | apply Q5.drew))), ⟨HR2.out.2.2.2.2.1, HR2.out.2.2.2.2.2.1, HR2.out.2.2.2.2.2.2.1, HR2.out.2.2.2.2.2.2.2⟩⟩
          by_cases hy1 : y = 1
          · as_aux_lemma =>
            subst hy1
            have DG := hide (fun (W : World) (t : St) (v : Value) (cs : List (ByteArray × Int)) (hq : Q4 HLD.out w p S d h t g v cs ib hib (rnD d) W) => sep_goo HGL.out hq)
            cases hon : d.on with
            | false =>
              have e1 : gooE d = 6 := by unfold gooE; rw [hon]; rfl
              have e2 : gooD d = d := by unfold gooD; rw [if_neg (by rw [hon]; intro hc; cases hc.1)]
              rw [e1, e2, errV_no (show ¬ (6 : Int) = 0 by decide)] at DG
              have HON := hide hon
              clear e1 e2 hon
              have DG1 := hide (DG.out _ _ _ _ HQ.out)
              clear DG
              go_wp2_with (fail)
              refine DG1.out.mono ?_
              rintro e w4 ⟨S4, rfl, hd4⟩
              have HQ4x : Hid (Q4 HLD.out w p S4 d h d.t g v cs ib hib (rnD d) w4) := hd4
              clear hd4 HQ hcell DG1
              go_wp2_with (fail)
              refine (As.same_err 6 6 _ (HG.out _ HQ4x.out.lo)).mono ?_
              rintro e w5 ⟨rfl, hb5⟩
              have HQ5 := hide (HQ4x.out.below hb5)
              clear hb5 HQ4x
              go_wp2
              go_meet
              exact ⟨rfl, j, S4, d, v, cs, by omega, by rw [HON.out], rfl, HQ5, HP⟩
            | true =>
              have HNZ : Hid (d.nm.size ≤ 140737488351232) := by
                obtain ⟨n0, m0, _, _, _, _, _, _, _, hi0⟩ := okD_rai HOK.out hon
                have := (imgE_zero hi0).2.2.2.1
                show d.nm.size ≤ 140737488351232
                omega
              have HRN : Hid (rnD d = (d.nm, d.v, d.cd)) := by show rnD d = _; unfold rnD; rw [hon]; rfl
              have SGD := hide (fun (W : World) (hs : SIs W w.heap.size h d.t) => good_any h d.t W w.heap.size hs)
              have HON := hide hon
              by_cases hge : goodE d.t = 0
              · have e1 : gooE d = 0 := by unfold gooE; rw [hon]; exact hge
                have e2 : gooD d = { d with t := goodT d.t, f := raiF d.f d.k d.nm d.v, k := raiK d.f d.k d.nm d.v } := by unfold gooD; rw [if_pos ⟨hon, hge⟩]
                have HR2 : Hid ((gooD d).t = goodT d.t ∧ (gooD d).on = true ∧ rnD (gooD d) = rnD d ∧ (gooD d).root = root ∧ (gooD d).x = x ∧ (gooD d).f = raiF (ofC cs) cs.length d.nm d.v ∧ (gooD d).k = raiK (ofC cs) cs.length d.nm d.v) := by
                  rw [e2]
                  refine ⟨rfl, hon, ?_, HP.out.1, HP.out.2.1, ?_, ?_⟩
                  · show (if d.on = true then _ else _) = _
                    unfold rnD
                    rfl
                  · show raiF d.f d.k d.nm d.v = _
                    rw [HP.out.2.2.1, HP.out.2.2.2]
                  · show raiK d.f d.k d.nm d.v = _
                    rw [HP.out.2.2.1, HP.out.2.2.2]
                rw [e1, errV_zero] at DG
                rw [hge] at SGD
                clear e1 e2 hge hon
                generalize gooD d = d2 at *
                generalize goodT d.t = t2 at *
                go_wp2_with (fail)
                refine (SGD.out _ HQ.out.s).mono ?_
                rintro e w4 ⟨rfl, hs4, ho4⟩
                have HQ4x := hide (HQ.out.stepS hs4 ho4)
                clear hs4 ho4 HQ hcell SGD
                have hib4 : w4.heap[ib]? = some (.cells #[.string d.nm, .int .i64 d.v, .string d.cd] 23) := by
                  have := HQ4x.out
                  rw [HRN.out] at this
                  exact this.b
                obtain ⟨r0, r1, r2⟩ := tri_cells hib4
                clear hib4
                go_wp2_with (fail)
                refine (raise_any g v cs d.nm d.v _ w.heap.size HQ4x.out.c HNZ.out HQ4x.out.hb).mono ?_
                rintro e w5 ⟨rfl, v5, cs5, h51, h52, h53, h54, h55⟩
                have HQ5 := hide (HQ4x.out.stepC h51 h54 h55)
                have HC5 := hide (And.intro h52 h53)
                clear h51 h52 h53 h54 h55 HQ4x r0 r1 r2
                have DG1 := hide (DG.out _ _ _ _ HQ5.out)
                clear DG
                go_wp2_with (fail)
                refine DG1.out.mono ?_
                rintro e w6 ⟨S6, rfl, hd6⟩
                have HQ6 : Hid (Q4 HLD.out w p S6 d2 h t2 g v5 cs5 ib hib (rnD d) w6) := hd6
                rw [← HR2.out.1, ← HR2.out.2.2.1] at HQ6
                clear hd6 HQ5 DG1
                go_wp2_with (fail)
                refine (As.same_nil _ _).mono ?_
                rintro e w7 ⟨rfl, hw⟩
                rw [hw]
                clear hw
                go_wp2
                go_meet
                exact ⟨rfl, j, S6, d2, v5, cs5, by omega, by rw [HR2.out.2.1], rfl, HQ6, ⟨HR2.out.2.2.2.1, HR2.out.2.2.2.2.1, HR2.out.2.2.2.2.2.1.trans HC5.out.1.symm, HR2.out.2.2.2.2.2.2.trans HC5.out.2.symm⟩⟩
              · have hg7 := good_no hge
                have hgt : goodT d.t = d.t := by
                  unfold goodT
                  rw [if_pos]
                  apply Decidable.byContradiction
                  intro hc
                  apply hge
                  unfold goodE
                  rw [if_neg hc]
                have e1 : gooE d = 7 := by unfold gooE; rw [hon]; exact hg7
                have e2 : gooD d = d := by unfold gooD; rw [if_neg (fun hc => hge hc.2)]
                rw [e1, e2, errV_no (show ¬ (7 : Int) = 0 by decide)] at DG
                rw [hg7, hgt] at SGD
                clear e1 e2 hge hon hg7 hgt
                go_wp2_with (fail)
                refine (SGD.out _ HQ.out.s).mono ?_
                rintro e w4 ⟨rfl, hs4, ho4⟩
                have HQ4x := hide (HQ.out.stepS hs4 ho4)
                clear hs4 ho4 HQ hcell SGD
                have DG1 := hide (DG.out _ _ _ _ HQ4x.out)
                clear DG
                go_wp2_with (fail)
                refine DG1.out.mono ?_
                rintro e w6 ⟨S6, rfl, hd6⟩
                have HQ6 : Hid (Q4 HLD.out w p S6 d h d.t g v cs ib hib (rnD d) w6) := hd6
                clear hd6 HQ4x DG1
                go_wp2_with (fail)
                refine (As.same_err 7 7 _ (HG.out _ HQ6.out.lo)).mono ?_
                rintro e w7 ⟨rfl, hb7⟩
                have HQ7 := hide (HQ6.out.below hb7)
                clear hb7 HQ6
                go_wp2
                go_meet
                exact ⟨rfl, j, S6, d, v, cs, by omega, by rw [HON.out], rfl, HQ7, HP⟩
          by_cases hy2 : y = 2
          · as_aux_lemma =>
            subst hy2
            obtain ⟨hqb, hkb, hX0⟩ := HQ.out.six
            have HX0 := hide hX0
            have HT0 := hide (fun W (hq : Q6 HLD.out w p S d h d.t g v cs ib hib (rnD d) wr.heap.size hqb (telQ d k i mask) (wr.heap.size + 1) hkb (repV (evD d)) W) => sep_tel HTL.out hq k i mask (HH.out _ hq.lo))
            have HT1 := hide (fun W (hq : Q6 HLD.out w p S d h d.t g v cs ib hib (rnD d) wr.heap.size hqb (telQ d k i mask) (wr.heap.size + 1) hkb noBank W) => sep_tel HTL.out hq k i mask (HH.out _ hq.lo))
            clear hX0 HQ hcell
            go_upto_if 142 with (fail)
            generalize wr.heap.size = qb at *
            generalize qb + 1 = kb at *
            go_cut [17, 25, 30, 33, 34, 142] from 74 to 219 (fun s17 s25 s30 _ _ _ w' => s25 = .bool d.on ∧ s17 = .int .i64 (telD d k i mask) ∧ ∃ (le : Option Addr) (lc : Nat) (bs : List Int), s30 = .slice le (telL d k i mask).length lc ∧ Hid (RRow 2 evV w' le (telL d k i mask)) ∧ Hid (Q6 HLD.out w p S d h d.t g v cs ib hib (rnD d) qb hqb (telQ d k i mask) kb hkb bs w'))
            case first =>
              cases hon : d.on with
              | false =>
                have e1 : telD d k i mask = 6 := by unfold telD; rw [hon]; rfl
                have e2 : telQ d k i mask = (0, 0, 0, 0, 0) := by unfold telQ; rw [hon]; rfl
                have e3 : telL d k i mask = [] := by unfold telL; rw [e1]; rfl
                have E1 := hide e1
                have HON := hide hon
                have E2 := hide e2
                have E3 := hide e3
                clear e1 e2 e3 hon
                go_wp2
                go_meet
                exact ⟨by rw [HON.out], by rw [E1.out], none, 0, noBank, by rw [E3.out]; rfl, (by rw [E3.out]; exact RRow.nil _ _), (by rw [E2.out]; exact HX0.out)⟩
              | true =>
                have hi0 : imgE d.nm d.v d.cd = 0 := by
                  obtain ⟨n0, m0, _, _, _, _, _, _, _, h0⟩ := okD_rai HOK.out hon
                  exact h0
                have HRN : Hid (rnD d = (d.nm, d.v, d.cd)) := by show rnD d = _; unfold rnD; rw [hon]; rfl
                have LN := hide (fun W => Ref.line_ok d.nm d.cd d.v W hi0)
                have TX := hide (fun W => Ref.text_ok (lineB d.nm d.v d.cd) W (Nat.le_trans (line_size d.nm d.cd d.v hi0) (by omega)))
                rw [← meaV_ok hi0] at TX
                have HM0 := hide (mea_is d.nm d.v d.cd)
                have TW := hide (fun W => Ref.two_ok 0 (meaV d.nm d.v d.cd) W rfl HM0.out)
                have HTD : Hid (telD d k i mask = quoE x k i mask (repV (evD d)) ∧ telQ d k i mask = quoV x k i mask (repV (evD d))) := by
                  refine ⟨?_, ?_⟩
                  · unfold telD; rw [if_pos hon, HP.out.2.1]
                  · unfold telQ; rw [if_pos hon, HP.out.2.1]
                have HON := hide hon
                have HBV : Hid (repV (evD d) = noBank.set 0 (stp 7919 0 (meaV d.nm d.v d.cd))) := rfl
                clear hi0 hon
                unfold imgC at LN
                have hr0 : ((wr.alloc (.cells #[.int .i64 0, .int .i64 0, .int .i64 0, .int .i64 0, .int .i64 0] 45)).alloc (.cells #[.int .i64 0, .int .i64 0, .int .i64 0, .int .i64 0, .int .i64 0, .int .i64 0, .int .i64 0, .int .i64 0] 67)).heap[ib]? = some (.cells #[.string d.nm, .int .i64 d.v, .string d.cd] 23) := by
                  have := HX0.out
                  rw [HRN.out] at this
                  exact this.r
                obtain ⟨t0, t1, t2⟩ := tri_cells hr0
                clear hr0
                go_wp2_with (fail)
                refine (LN.out _).mono ?_
                rintro e w4 ⟨rfl, hb4⟩
                have HX4 := hide (HX0.out.below hb4)
                clear hb4 HX0 LN t0 t1 t2
                go_wp2_with (fail)
                refine (TX.out _).mono ?_
                rintro e w5 ⟨rfl, hw⟩
                rw [hw]
                clear hw TX
                go_wp2_with (fail)
                refine (TW.out _).mono ?_
                rintro e w5 ⟨rfl, hw⟩
                rw [hw]
                clear hw TW
                have hk4 := HX4.out.bk
                have HK4 := hide hk4
                have c0 : w4.cell? ⟨kb, 0, none⟩ = some (.int .i64 0) := by rw [cell_of_row _ _ _ _ _ _ hk4]; rfl
                have f0 : w4.frozen? ⟨kb, 0, none⟩ = false := by simp [World.frozen?, hk4]
                clear hk4
                go_upto_region 44 with (fail)
                rw [setCell_eq_setRow _ kb 0 _ _ _ _ HK4.out, bankC_set, ← HBV.out]
                have HX5 := hide (HX4.out.stepK (bs' := repV (evD d)) (setRow_heap _ _ _ _ _ _ HK4.out) ((Only.refl (fun k => k = kb) _).setRow (b := kb) rfl _))
                have HBL := hide (repV_len (evD d))
                have HBO := hide (repV_ok (evD d))
                have HEV : Hid (evD d = [(0, meaV d.nm d.v d.cd)]) := rfl
                have HTL3 : Hid (telL d k i mask = if telD d k i mask = 0 then evD d else []) := rfl
                clear HX4 HK4 HBV c0 f0
                generalize w4.setRow kb _ = w5 at *
                generalize repV (evD d) = bv at *
                generalize meaV d.nm d.v d.cd = mm at *
                have HBS := hide (show (bankC bv).size = 8 by rw [bankC_size, HBL.out])
                have DG := hide (fun W => Ref.digested_any bv (bankC bv) mask W rfl HBL.out)
                have HIM : Hid (isM (i : Int) = true) := isM_iff.2 (by omega)
                have hk5 := HX5.out.bk
                have HK5 := hide hk5
                clear hk5
                rcases digE_is bv mask with hd | hd
                · rw [hd] at DG
                  have HDE := hide hd
                  have SGN := hide (fun W => Ref.signed_any x k 0 W)
                  clear hd
                  go_wp2_with ((with_reducible refine Bank.wpl_load 32 ?_ ?_ _ ?_ _ _ HK5.out HBS.out ?_); rfl; rfl; rfl)
                  refine (DG.out _).mono ?_
                  rintro e w6 ⟨rfl, hb6⟩
                  have HX6 := hide (HX5.out.below hb6)
                  clear hb6 HX5 HK5 DG
                  by_cases hsk : secB x = true ∧ secB k = true
                  · have hs0 : sigC x k 0 = 0 := sigC_ok hsk.1 hsk.2 rfl
                    rw [hs0] at SGN
                    have hqe : quoE x k i mask bv = 0 := by rw [quoE_go HIM.out HDE.out]; exact sigC_ok hsk.1 hsk.2 (quoM_m _ _ _)
                    have HQE := hide hqe
                    have HSK := hide hsk
                    have hmk := (digE_zero HDE.out).2
                    have DGT := hide (fun W => Ref.digest_ok bv (bankC bv) mask W rfl HBL.out HBO.out hmk)
                    rw [← digV_ok HBO.out hmk] at DGT
                    have ALL := hide (fun (a : Option Addr) (W : World) (hr : Row W a [(i : Int), mask, digV bv mask]) => Ref.all_ok a [(i : Int), mask, digV bv mask] 3 3 W rfl (by omega) hr (quo_ok HIM.out hmk (digV_m bv mask)))
                    have SIG := hide (fun W => Ref.sign_ok x k (quoM i mask (digV bv mask)) W hsk.1 hsk.2 (quoM_m _ _ _))
                    rw [show allFrom 0 [(i : Int), mask, digV bv mask] = quoM i mask (digV bv mask) from rfl] at ALL
                    unfold sealC at SIG
                    have HQV := hide (quoV_ok hqe)
                    clear hs0 hqe hsk hmk
                    generalize sigP x k (quoM i mask (digV bv mask)) = sp at *
                    generalize sigA x k (quoM i mask (digV bv mask)) = sa at *
                    generalize quoM i mask (digV bv mask) = qm at *
                    generalize digV bv mask = dv at *
                    have HQ6b := hide (blk_lt HX6.out.qo)
                    go_wp2_with (fail)
                    refine (SGN.out _).mono ?_
                    rintro e w7 ⟨rfl, hw⟩
                    rw [hw]
                    clear hw SGN
                    have HX7 := hide (HX6.out.below (below_new w6 (.cells #[.int .i64 0, .int .i64 mm] 51)))
                    have HEB := hide (blk_new w6 (.cells #[.int .i64 0, .int .i64 mm] 51))
                    clear HX6
                    have hk7 := HX7.out.bk
                    have HK7 := hide hk7
                    clear hk7
                    go_wp2_with ((with_reducible refine Bank.wpl_load 32 ?_ ?_ _ ?_ _ _ HK7.out HBS.out ?_); rfl; rfl; rfl)
                    refine (DGT.out _).mono ?_
                    rintro e w8 ⟨rfl, hb8⟩
                    have HX8 := hide (HX7.out.below hb8)
                    have HE8 := hide (blk_below HEB.out hb8)
                    clear hb8 HX7 HEB HK7 DGT
                    have HI8 := hide (blk_new w8 (.cells #[.int .i64 i, .int .i64 mask, .int .i64 dv] 3))
                    have HX9 := hide (HX8.out.below (below_new w8 (.cells #[.int .i64 i, .int .i64 mask, .int .i64 dv] 3)))
                    have HE9 := hide (blk_below HE8.out (below_new w8 (.cells #[.int .i64 i, .int .i64 mask, .int .i64 dv] 3)))
                    clear HX8 HE8
                    go_wp2_with (fail)
                    refine (ALL.out _ _ (Row.three HI8.out)).mono ?_
                    rintro e w9 ⟨rfl, hw⟩
                    rw [hw]
                    clear hw ALL HI8
                    go_wp2_with (fail)
                    refine (SIG.out _).mono ?_
                    rintro e wA ⟨rfl, hbA⟩
                    have HXA := hide (HX9.out.below hbA)
                    have HEA := hide (blk_below HE9.out hbA)
                    clear hbA HX9 HE9 SIG
                    have hqA := HXA.out.qo
                    have HQA := hide hqA
                    obtain ⟨r0, r1, r2, r3, r4⟩ := quin_cells hqA
                    obtain ⟨f0, f1, f2, f3, f4⟩ := quin_free hqA
                    clear hqA
                    go_wp2
                    rw [quin_set HQA.out]
                    go_meet
                    have et : telD d k i mask = 0 := HTD.out.1.trans HQE.out
                    have eq : telQ d k i mask = ((i : Int), mask, dv, sp, sa) := HTD.out.2.trans HQV.out
                    have el : telL d k i mask = [(0, mm)] := by rw [HTL3.out, et]; exact HEV.out
                    have hne : w6.heap.size ≠ qb := by have := HQ6b.out; omega
                    exact ⟨by rw [HON.out], by rw [et], some ⟨w6.heap.size, 0, none⟩, 1, bv, by rw [el]; rfl, (by rw [el]; exact ev_row ((setRow_other _ _ _ _ hne).trans HEA.out)), (by rw [eq]; exact HXA.out.stepQ (q' := ((i : Int), mask, dv, sp, sa)) (setRow_heap _ _ _ _ _ _ HQA.out) ((Only.refl (fun k => k = qb) _).setRow (b := qb) rfl _))⟩
                  · have hs1 : ∀ m, sigC x k m = 1 := fun m => if_neg (fun hc => hsk ⟨hc.1, hc.2.1⟩)
                    rw [hs1 0] at SGN
                    have hqe : quoE x k i mask bv = 1 := by rw [quoE_go HIM.out HDE.out]; exact hs1 _
                    have HQE := hide hqe
                    clear hs1 hqe hsk
                    go_wp2_with (fail)
                    refine (SGN.out _).mono ?_
                    rintro e w7 ⟨rfl, hw⟩
                    rw [hw]
                    clear hw SGN
                    go_wp2
                    go_meet
                    have et : telD d k i mask = 1 := HTD.out.1.trans HQE.out
                    have eq : telQ d k i mask = (0, 0, 0, 0, 0) := HTD.out.2.trans (quoV_no (by rw [HQE.out]; decide))
                    have el : telL d k i mask = [] := by rw [HTL3.out, et]; rfl
                    exact ⟨by rw [HON.out], by rw [et], none, 0, bv, by rw [el]; rfl, (by rw [el]; exact RRow.nil _ _), (by rw [eq]; exact HX6.out)⟩
                · rw [hd] at DG
                  have hqe : quoE x k i mask bv = 1 := quoE_dig HIM.out (by rw [hd]; decide)
                  have HQE := hide hqe
                  clear hd hqe
                  go_wp2_with ((with_reducible refine Bank.wpl_load 32 ?_ ?_ _ ?_ _ _ HK5.out HBS.out ?_); rfl; rfl; rfl)
                  refine (DG.out _).mono ?_
                  rintro e w6 ⟨rfl, hb6⟩
                  have HX6 := hide (HX5.out.below hb6)
                  clear hb6 HX5 HK5 DG
                  go_wp2
                  go_meet
                  have et : telD d k i mask = 1 := HTD.out.1.trans HQE.out
                  have eq : telQ d k i mask = (0, 0, 0, 0, 0) := HTD.out.2.trans (quoV_no (by rw [HQE.out]; decide))
                  have el : telL d k i mask = [] := by rw [HTL3.out, et]; rfl
                  exact ⟨by rw [HON.out], by rw [et], none, 0, bv, by rw [el]; rfl, (by rw [el]; exact RRow.nil _ _), (by rw [eq]; exact HX6.out)⟩
            case rest =>
            obtain ⟨rfl, rfl, le, lc, bs, rfl, HRL2, HX1⟩ := hcut
            clear HX0 HT0 HT1
            obtain ⟨wa, hwa⟩ : ∃ wa, wa = wc := ⟨_, rfl⟩
            subst hwa
            have TE := hide (HTL.out p S d k i mask wa w.heap.size (Sep.p0 HX1.out) (HH.out _ HX1.out.lo))
            have HTN : Hid ((telL d k i mask).length ≤ maxLen) := by
              show (telL d k i mask).length ≤ maxLen
              unfold telL
              split
              · show 1 ≤ maxLen; unfold maxLen; omega
              · show 0 ≤ maxLen; unfold maxLen; omega
            generalize telD d k i mask = te at *
            generalize telL d k i mask = tl at *
            generalize telQ d k i mask = tq at *
            obtain ⟨u0, u1, u2, u3, u4⟩ := tq
            simp only [] at TE
            go_wp2_with (fail)
            refine TE.out.mono ?_
            rintro e w4 ⟨⟨ae, ce, rfl, hr4, _⟩, hb4⟩
            have hd4 := Sep.below HX1.out hb4
            have hz4 := hd4.hb
            have HR4x := hide (hr4.below (below_new w4 (.cells #[.int .i64 u0, .int .i64 u1, .int .i64 u2, .int .i64 u3, .int .i64 u4] 45)))
            have HL4x := hide ((HRL2.out.below hb4).below (below_new w4 (.cells #[.int .i64 u0, .int .i64 u1, .int .i64 u2, .int .i64 u3, .int .i64 u4] 45)))
            have HX4 := hide (hd4.allocz hz4 (.cells #[.int .i64 u0, .int .i64 u1, .int .i64 u2, .int .i64 u3, .int .i64 u4] 45))
            clear hr4 hd4 HX1 TE hb4 HRL2
            go_wp2_with (fail)
            refine (As.same_is _ _ _ rfl (HG.out _ HX4.out.lo)).mono ?_
            rintro e w5 ⟨rfl, hb5⟩
            have HX5 := hide (HX4.out.below hb5)
            have HR5x := hide (HR4x.out.below hb5)
            have HL5x := hide (HL4x.out.below hb5)
            clear hb5 HX4 HR4x HL4x
            have hy5 : w5.heap[w4.heap.size]? = some (.cells #[.int .i64 u0, .int .i64 u1, .int .i64 u2, .int .i64 u3, .int .i64 u4] 45) := HX5.out.p0
            have HQ5 : Hid (Q6 HLD.out w p S d h d.t g v cs ib hib (rnD d) qb hqb (u0, u1, u2, u3, u4) kb hkb bs w5) := Sep.tail HX5.out
            have hq5 := HQ5.out.qo
            obtain ⟨r0, r1, r2, r3, r4⟩ := quin_cells hy5
            obtain ⟨q0, q1, q2, q3, q4⟩ := quin_cells hq5
            clear hy5 hq5 HX5
            go_wp2_with (fail)
            refine (SameEv.events_same ae le tl tl.length ce lc _ rfl HTN.out HR5x.out HL5x.out).mono ?_
            rintro e w6 ⟨rfl, hb6⟩
            have HQ6 := hide (HQ5.out.below hb6)
            clear hb6 HQ5 HR5x HL5x r0 r1 r2 r3 r4 q0 q1 q2 q3 q4
            go_wp2
            go_meet
            exact ⟨rfl, j, S, d, v, cs, by omega, rfl, rfl, HQ6.out.less, HP⟩
          as_aux_lemma =>
            have PK := hide (fun (W : World) (hs : SIs W w.heap.size h d.t) => pick_any h d.t W w.heap.size hs)
            have SF := hide (fun (W : World) (hs : SIs W w.heap.size h d.t) => safe_any h d.t W w.heap.size hs)
            have ST := hide (fun (W : World) (hs : SIs W w.heap.size h d.t) => start_any h d.t W w.heap.size hs HOK.out.2.2.1.x HOK.out.2.2.1.y)
            have TP := hide (trial_pick HOK.out.2.2.1)
            have DST := hide (fun (W : World) (t : St) (m : ByteArray × Int × ByteArray) (hq : Q4 HLD.out w p S d h t g v cs ib hib m W) => sep_sta HSL.out hq (HH.out _ hq.lo))
            have HP2 : Hid ((staD d).root = root ∧ (staD d).x = x ∧ (staD d).f = ofC cs ∧ (staD d).k = cs.length) := HP.out
            have HR2 : Hid ((staD d).t = startT d.t ∧ (staD d).on = true ∧ rnD (staD d) = ((d.t.at (pickT d.t)).s.nm, (d.t.at (pickT d.t)).s.v, (d.t.at (pickT d.t)).s.cd)) := ⟨rfl, rfl, rfl⟩
            unfold sgA at ST
            generalize staD d = d2 at *
            generalize startT d.t = t2 at *
            generalize (d.t.at (pickT d.t)).s = sp at *
            rw [TP.out] at DST
            clear TP
            go_wp2_with (fail)
            refine (PK.out _ HQ.out.s).mono ?_
            rintro e w4 ⟨rfl, hb4⟩
            have HQ4 := hide (HQ.out.below hb4)
            clear hb4 HQ hcell PK
            go_wp2_with (fail)
            refine (SF.out _ HQ4.out.s).mono ?_
            rintro e w5 ⟨rfl, hb5⟩
            have HQ5 := hide (HQ4.out.below hb5)
            clear hb5 HQ4 SF
            generalize idx (pickT d.t) = ip at *
            generalize idx (safeT d.t) = is at *
            go_wp2_with (fail)
            refine (ST.out _ HQ5.out.s).mono ?_
            rintro e w6 ⟨rfl, hs6, ho6⟩
            have HQ6 := hide (HQ5.out.stepS hs6 ho6)
            clear hs6 ho6 HQ5 ST
            have FI := field_image sp.nm sp.cd sp.v sp.p sp.a
            generalize rnD d = m at *
            obtain ⟨mn, mz, mc⟩ := m
            have hib6 := HQ6.out.b
            have HI6 := hide hib6
            obtain ⟨r0, r1, r2⟩ := tri_cells hib6
            obtain ⟨f0, f1, f2⟩ := tri_free hib6
            clear hib6
            go_upto_region 21 with (fail)
            rw [tri_set HI6.out]
            have HQ7 := hide (HQ6.out.stepB (m' := (sp.nm, sp.v, sp.cd)) (setRow_heap _ _ _ _ _ _ HI6.out) ((Only.refl (fun k => k = ib) _).setRow (b := ib) rfl _))
            clear HQ6 HI6 r0 r1 r2 f0 f1 f2
            generalize w6.setRow ib _ = w7 at *
            have DS1 := hide (DST.out _ _ _ HQ7.out)
            clear DST
            go_wp2_with (fail)
            refine DS1.out.mono ?_
            rintro e w8 ⟨S8, rfl, hd8⟩
            have HQ8 : Hid (Q4 HLD.out w p S8 d2 h t2 g v cs ib hib (sp.nm, sp.v, sp.cd) w8) := hd8
            rw [← HR2.out.1, ← HR2.out.2.2] at HQ8
            clear hd8 HQ7 DS1
            go_wp2
            go_meet
            exact ⟨(by simp), j, S8, d2, v, cs, by omega, by rw [HR2.out.2.1], rfl, HQ8, HP2⟩
        case rest =>
        obtain ⟨rfl, j2, S2, d2, v2, cs2, hj2, rfl, rfl, HQ2, HP2⟩ := hcut
        clear HQ HP HOK hcell
        as_aux_lemma =>
          have RU := hide (sep_run HRL.out HQ2.out)
          cases hon : d2.on with
          | false =>
            have hrn : rnD d2 = ({ data := #[] }, 0, { data := #[] }) := by unfold rnD; rw [hon]; rfl
            rw [hon, show runD d2 = 6 by unfold runD; rw [hon]; rfl, errV_no (show ¬ (6 : Int) = 0 by decide)] at RU
            simp only [Bool.false_eq_true, if_false] at RU
            go_wp2_with (fail)
            refine RU.out.mono ?_
            rintro e w4 ⟨rfl, hd4⟩
            have hq4 : Q4 HLD.out w p S2 d2 h d2.t g v2 cs2 ib hib (rnD d2) w4 := hd4
            have hz4 := hq4.hb
            have HSX := hide (Sep.allocz hd4 hz4 (.cells #[.string { data := #[] }, .int .i64 0, .string { data := #[] }] 23))
            clear hd4 hq4 HQ2 RU
            go_wp2_with (fail)
            refine (As.same_err 6 6 _ (HG.out _ HSX.out.lo)).mono ?_
            rintro e w5 ⟨rfl, hb5⟩
            have HS5x := hide (HSX.out.below hb5)
            clear hb5 HSX
            have hm5 : w5.heap[w4.heap.size]? = some (.cells #[.string { data := #[] }, .int .i64 0, .string { data := #[] }] 23) := HS5x.out.p0
            have HQ5 : Hid (Q4 HLD.out w p S2 d2 h d2.t g v2 cs2 ib hib (rnD d2) w5) := Sep.tail HS5x.out
            have hr5 : w5.heap[ib]? = some (.cells #[.string { data := #[] }, .int .i64 0, .string { data := #[] }] 23) := by
              have := HQ5.out
              rw [hrn] at this
              exact this.b
            obtain ⟨r0, r1, r2⟩ := tri_cells hm5
            obtain ⟨q0, q1, q2⟩ := tri_cells hr5
            have HON := hide hon
            clear hm5 hr5 HS5x hrn hon
            go_wp2
            go_roundw
            case rel => exact ⟨i + 1, j2, S2, d2, v2, cs2, by omega, by omega, by rw [HON.out], rfl, by go_num, HQ5.out, HP2.out⟩
            case measure => simp [intOf]; omega
          | true =>
            have hrn : rnD d2 = (d2.nm, d2.v, d2.cd) := by unfold rnD; rw [hon]; rfl
            rw [hon, show runD d2 = 0 by unfold runD; rw [hon]; rfl, errV_zero] at RU
            simp only [if_true] at RU
            go_wp2_with (fail)
            refine RU.out.mono ?_
            rintro e w4 ⟨rfl, hd4⟩
            have hq4 : Q4 HLD.out w p S2 d2 h d2.t g v2 cs2 ib hib (rnD d2) w4 := hd4
            have hz4 := hq4.hb
            have HSX := hide (Sep.allocz hd4 hz4 (.cells #[.string d2.nm, .int .i64 d2.v, .string d2.cd] 23))
            clear hd4 hq4 HQ2 RU
            go_wp2_with (fail)
            refine (As.same_nil _ _).mono ?_
            rintro e w5 ⟨rfl, hw⟩
            rw [hw]
            clear hw
            have hm5 : (w4.alloc (.cells #[.string d2.nm, .int .i64 d2.v, .string d2.cd] 23)).heap[w4.heap.size]? = some (.cells #[.string d2.nm, .int .i64 d2.v, .string d2.cd] 23) := HSX.out.p0
            have HQ5 : Hid (Q4 HLD.out w p S2 d2 h d2.t g v2 cs2 ib hib (rnD d2) (w4.alloc (.cells #[.string d2.nm, .int .i64 d2.v, .string d2.cd] 23))) := Sep.tail HSX.out
            have hr5 : (w4.alloc (.cells #[.string d2.nm, .int .i64 d2.v, .string d2.cd] 23)).heap[ib]? = some (.cells #[.string d2.nm, .int .i64 d2.v, .string d2.cd] 23) := by
              have := HQ5.out
              rw [hrn] at this
              exact this.b
            obtain ⟨r0, r1, r2⟩ := tri_cells hm5
            obtain ⟨q0, q1, q2⟩ := tri_cells hr5
            have HON := hide hon
            clear hm5 hr5 HSX hrn hon
            go_wp2
            go_roundw
            case rel => exact ⟨i + 1, j2, S2, d2, v2, cs2, by omega, by omega, by rw [HON.out], rfl, by go_num, HQ5.out, HP2.out⟩
            case measure => simp [intOf]; omega
      · by_cases hin : i < n3
        · have hinz : (i : Int) < n3 := by omega
          have hi50z : ¬ (i : Int) < 50 := by omega
          clear hlt
          go_wp2
          go_ret
          exact ⟨rfl, HQ.out.lo⟩
        · have hinz : ¬ (i : Int) < n3 := by omega
          clear hlt
          go_wp2
          go_ret
          exact ⟨rfl, HQ.out.lo⟩
  · as_aux_lemma =>
    have NO1 := hide (fun W => NO.out W hE)
    have hsg : (w.alloc (.cells #[.string fn, .int .i64 fv, .string fc, .int .i64 fp, .int .i64 fa] 27)).heap[w.heap.size]? = some (.cells #[.string fn, .int .i64 fv, .string fc, .int .i64 fp, .int .i64 fa] 27) := HS0.out.p0
    obtain ⟨q0, q1, q2, q3, q4⟩ := cells5 hsg
    clear hsg
    cases hc : (inB root && secB x) with
    | true =>
      rw [dvcE_img hc] at hE NO1
      have e1 : sgE ⟨fn, fv, fc, fp, fa⟩ = imgE fn fv fc := rfl
      rw [e1] at hE NO1
      rw [Bool.and_eq_true] at hc
      obtain ⟨c1, c2⟩ := hc
      have HE := hide hE
      clear NO NW NR e1 hE
      generalize imgE fn fv fc = ie at *
      go_enter Tryz.func4, Tryz.ntmps4
      go_wp2_with (first
        | (go_at_call 17; refine (Ref.in_any _ _).mono ?_; rintro e wz ⟨rfl, hw⟩; rw [hw]; clear hw)
        | (go_at_call 18; refine (Ref.secret_any _ _).mono ?_; rintro e wz ⟨rfl, hw⟩; rw [hw]; clear hw))
      refine (IC.out _).mono ?_
      rintro e w1 ⟨rfl, hb1⟩
      have HS1 := hide (HS0.out.below hb1)
      clear hb1 HS0 IC q0 q1 q2 q3 q4
      have hsg : w1.heap[w.heap.size]? = some (.cells #[.string fn, .int .i64 fv, .string fc, .int .i64 fp, .int .i64 fa] 27) := HS1.out.p0
      obtain ⟨q0, q1, q2, q3, q4⟩ := cells5 hsg
      clear hsg
      go_wp2_with (fail)
      refine (NO1.out _).mono ?_
      rintro e w2 ⟨rfl, hb2⟩
      have HS2 := hide (HS1.out.below hb2)
      clear hb2 HS1 NO1 q0 q1 q2 q3 q4
      go_wp2_with (fail)
      refine (As.same_is _ _ _ rfl (HG.out _ HS2.out.lo)).mono ?_
      rintro e w3 ⟨rfl, hb3⟩
      have HS3 := hide (HS2.out.below hb3)
      clear hb3 HS2
      have hne := HE.out
      go_wp2
      go_ret
      exact ⟨rfl, HS3.out.lo⟩
    | false =>
      rw [dvcE_no hc, errV_one] at NO1
      clear NO NW NR hE IC
      go_enter Tryz.func4, Tryz.ntmps4
      go_upto_region 4 with (first
        | (go_at_call 17; refine (Ref.in_any _ _).mono ?_; rintro e wz ⟨rfl, hw⟩; rw [hw]; clear hw)
        | (go_at_call 18; refine (Ref.secret_any _ _).mono ?_; rintro e wz ⟨rfl, hw⟩; rw [hw]; clear hw))
      generalize inB root = c1 at *
      generalize secB x = c2 at *
      go_cut [18, 19, 43, 45, 49] (fun _ _ _ _ s49 w' => s49 = .bool false ∧ w' = w.alloc (.cells #[.string fn, .int .i64 fv, .string fc, .int .i64 fp, .int .i64 fa] 27))
      case first =>
        cases c1 <;> cases c2
        case true.true => cases hc
        all_goals
          go_wp2
          go_meet
          exact ⟨rfl, rfl⟩
      case rest =>
      obtain ⟨rfl, hw⟩ := hcut
      rw [hw]
      clear hw
      go_wp2_with (fail)
      refine (NO1.out _).mono ?_
      rintro e w2 ⟨rfl, hb2⟩
      have HS2 := hide (HS0.out.below hb2)
      clear hb2 HS0 NO1 q0 q1 q2 q3 q4
      go_wp2_with (fail)
      refine (As.same_err 1 1 _ (HG.out _ HS2.out.lo)).mono ?_
      rintro e w3 ⟨rfl, hb3⟩
      have HS3 := hide (HS2.out.below hb3)
      clear hb3 HS2
      go_wp2
      go_ret
      exact ⟨rfl, HS3.out.lo⟩
end Go.Proofs.YtojdaifnljghkabGreatDoor.DevicePlays
