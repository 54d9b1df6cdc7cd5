/-
  Contracts of package boot's check and measured over this translation: what each returns, and that memory that was there stays as it was.
-/
import Derived.Test.YtidnjnhmkhekeaaDoorQBootLaw
import Derived.Test.YtidnjnhmkhekeaaDoorPack1
namespace Go.Proofs.YtidnjnhmkhekeaaDoor.Boot
open Go.ChangeShapes Go.WideShapes Go.ChangeAt Go.RowKit
open Go.Proofs.YtidnjnhmkhekeaaDoor.M
set_option linter.unusedVariables false

theorem five_cells {w : World} {b o : Nat} {s : Sg} (h : ∀ (j : Nat) (v : Value), (sgV s)[j]? = some v → w.cell? ⟨b, o + j, none⟩ = some v) :
    w.cell? ⟨b, o, none⟩ = some (.string s.nm) ∧ w.cell? ⟨b, o + 1, none⟩ = some (.int .i64 s.v) ∧ w.cell? ⟨b, o + 2, none⟩ = some (.string s.cd) ∧ w.cell? ⟨b, o + 3, none⟩ = some (.int .i64 s.p) ∧ w.cell? ⟨b, o + 4, none⟩ = some (.int .i64 s.a) := ⟨h 0 _ rfl, h 1 _ rfl, h 2 _ rfl, h 3 _ rfl, h 4 _ rfl⟩
theorem drop_one {l : List Sg} {k : Nat} {s : Sg} (h : l[k]? = some s) : l.drop k = s :: l.drop (k + 1) := by
  obtain ⟨h1, h2⟩ := List.getElem?_eq_some_iff.1 h
  rw [List.drop_eq_getElem_cons h1, h2]

set_option maxRecDepth 20000 in
set_option maxHeartbeats 4000000 in
theorem check_any (q : Int) (a : Option Addr) (l : List Sg) (n cap : Nat) (w : World) (hn : n = l.length) (hm : n ≤ maxLen) (hr : RRow 5 sgV w a l) (hs : ∀ s ∈ l, szS s) :
    Calls Tryd.prog 55 #[.int .i64 q, .slice a n cap] w fun e w' => e = .returned (errV 77 (botE q l)) ∧ Below w.heap.size w w' := by
  have hm' : n ≤ 9223372036854775807 := by unfold maxLen at hm; omega
  have HN := hide hn
  have HR := hide hr
  have HS := hide hs
  clear hn hr hm hs
  go_enter Tryd.func55, Tryd.ntmps55
  go_wp2_with (fail)
  refine (Key.public_is q _).mono ?_
  rintro e w0 ⟨rfl, rfl⟩
  cases hq : inB q with
  | false =>
    have E := hide (botE_key (l := l) hq)
    clear hq
    go_wp2
    go_ret
    exact ⟨by rw [E.out]; rfl, Below.refl _ _⟩
  | true =>
    by_cases h8 : 8 < n
    · have h8z : (8 : Int) < n := by omega
      have E := hide (botE_full hq (by have := HN.out; omega) : botE q l = 4)
      clear hq
      go_wp2
      go_ret
      exact ⟨by rw [E.out]; rfl, Below.refl _ _⟩
    · have h8z : ¬ (8 : Int) < n := by omega
      have EF := hide (botE_go hq (by have := HN.out; omega) : botE q l = botF l)
      clear hq
      go_wp2
      go_loopw [18] (fun s18 wr => ∃ k : Nat, k ≤ n ∧ s18 = .int .i64 k ∧ Hid (botE q l = botF (l.drop k)) ∧ Hid (Below w0.heap.size w0 wr)) (fun s18 _ => n - (intOf s18).toNat)
      case atStart => exact ⟨0, by omega, rfl, EF.out, Below.refl _ _⟩
      case round =>
        obtain ⟨k, hk, rfl, HF, HB⟩ := hrel
        by_cases hlt : k < n
        · have hlz : (k : Int) < n := by omega
          obtain ⟨s, hx⟩ : ∃ c, l[k]? = some c := ⟨l[k]'(by have := HN.out; omega), List.getElem?_eq_getElem (by have := HN.out; omega)⟩
          have HSZ := hide (HS.out s (List.mem_of_getElem? hx))
          have HD := hide (drop_one hx)
          obtain ⟨b, off, rfl, hc⟩ := (HR.out.below HB.out).at hx
          obtain ⟨x0, x1, x2, x3, x4⟩ := five_cells hc
          have IM := hide (fun W => Image.check_any s.nm s.cd s.v W HSZ.out.1 HSZ.out.2)
          unfold imgC at IM
          have HB0 := hide (below_on HB.out (below_new wr (.cells #[.string s.nm, .int .i64 s.v, .string s.cd, .int .i64 s.p, .int .i64 s.a] 67)))
          have HO := hide (fun (h : imgE s.nm s.v s.cd = 0) => show botE q l = botF (l.drop (k + 1)) by rw [HF.out, HD.out, botF_ok h])
          have HX := hide (fun (h : ¬ imgE s.nm s.v s.cd = 0) => show botE q l = imgE s.nm s.v s.cd by rw [HF.out, HD.out, botF_no h]; rfl)
          clear hx hc HF HD
          generalize imgE s.nm s.v s.cd = ie at *
          go_wp2_with (fail)
          refine (IM.out _).mono ?_
          rintro e w1 ⟨rfl, hb1⟩
          have HB1 := hide (below_on HB0.out hb1)
          clear hb1 IM x0 x1 x2 x3 x4 HB HB0
          by_cases hE : ie = 0
          · have E := hide (HO.out hE)
            subst hE
            rw [errV_zero]
            go_wp2
            go_roundw
            case rel => exact ⟨k + 1, by omega, by go_num, E.out, HB1.out⟩
            case measure => simp [intOf]; omega
          · have E := hide (HX.out hE)
            have HV := hide (Image.errV_ne (T := 77) hE)
            rw [HV.out]
            clear hE
            go_wp2
            go_ret
            exact ⟨by rw [E.out, HV.out]; rfl, HB1.out⟩
        · have hlz : ¬ (k : Int) < n := by omega
          have E := hide (show botE q l = 0 by rw [HF.out, List.drop_eq_nil_of_le (by have := HN.out; omega)]; rfl)
          go_wp2
          go_ret
          exact ⟨by rw [E.out]; rfl, HB.out⟩

theorem blk_at {w : World} {b : Nat} (o : Obj) (h : w.heap.size = b) : (w.alloc o).heap[b]? = some o := by subst h; exact blk_new w o
theorem size_one (w : World) (o : Obj) : (w.alloc o).heap.size = w.heap.size + 1 := by simp
theorem four (w : World) (o0 o1 o2 o3 : Obj) : Below w.heap.size w ((((w.alloc o0).alloc o1).alloc o2).alloc o3) ∧ ((((w.alloc o0).alloc o1).alloc o2).alloc o3).heap[w.heap.size]? = some o0 ∧ ((((w.alloc o0).alloc o1).alloc o2).alloc o3).heap[w.heap.size + 1]? = some o1 ∧ ((((w.alloc o0).alloc o1).alloc o2).alloc o3).heap[w.heap.size + 2]? = some o2 ∧ ((((w.alloc o0).alloc o1).alloc o2).alloc o3).heap[w.heap.size + 3]? = some o3 :=
  ⟨below_on (below_on (below_on (below_new w o0) (below_new _ o1)) (below_new _ o2)) (below_new _ o3), blk_keep (blk_keep (blk_keep (blk_new w o0) o1) o2) o3, blk_keep (blk_keep (blk_at o1 (size_one ..)) o2) o3, blk_keep (blk_at o2 (by rw [size_one, size_one])) o3, blk_at o3 (by rw [size_one, size_one, size_one])⟩
theorem info_ev2 : (Tryd.prog.info? 93).map (·.size) = some 2 := by kernel_rfl
theorem load_ev {w : World} {b : Nat} {c : Array Value} {fr : Nat × Nat} (h : w.heap[b]? = some (.cells c 93 fr)) (hs : c.size = 2) : (loadVar 93 ⟨b, 0, none⟩).run Tryd.prog w = .ok (.agg c) w :=
  run_loadVar_row w b _ _ c fr _ h Tryd.underlying93 rfl (by rw [info_ev2, hs])
theorem results_cct {fn : Func} {p u t : Tmp} {ty ty' : TypeId} (h : fn.results = #[.cell p ty, .cell u ty', .tmp t]) (tmps : Array Value) (P : Program) (w : World) :
    (results fn tmps).run P w = ((asAddr (tmps.getD p undef)).run P w).andThen fun a w1 => ((loadVar ty a).run P w1).andThen fun v w2 => ((asAddr (tmps.getD u undef)).run P w2).andThen fun a' w3 => ((loadVar ty' a').run P w3).andThen fun v' w4 => .ok (.tuple #[v, v', tmps.getD t undef]) w4 := by
  simp only [results, h]
  simp [Sem.run_bind, Result.andThen]
theorem results_meas {fn : Func} {p u t : Tmp} (h : fn.results = #[.cell p 38, .cell u 93, .tmp t]) (tmps : Array Value) (w : World) (b e : Nat) (c d : Array Value) (v : Value) (hp : tmps.getD p undef = .pointer (some ⟨b, 0, none⟩)) (hu : tmps.getD u undef = .pointer (some ⟨e, 0, none⟩)) (ht : tmps.getD t undef = v)
    (hg : w.heap[b]? = some (.cells c 38)) (hs : c.size = 8) (hg' : w.heap[e]? = some (.cells d 93)) (hs' : d.size = 2) : (results fn tmps).run Tryd.prog w = .ok (.tuple #[.agg c, .agg d, v]) w := by
  rw [results_cct h, hp, hu, ht]
  simp [asAddr, Bank.load_bank hg hs, load_ev hg' hs', Result.andThen]

set_option maxRecDepth 20000 in
set_option maxHeartbeats 4000000 in
theorem measured_any (xs : List Int) (c : Array Value) (k : Int) (nm cd : ByteArray) (v : Int) (w : World) (hc : c = bankC xs) (hl : xs.length = 8) (hE : imgE nm v cd = 0) (hk : extE xs k (meaV nm v cd) = 0) (hn : nm.size ≤ 140737488351232) (hcd : cd.size ≤ 140737488351232) (hh : Image.Has w) :
    Calls Tryd.prog 56 #[.agg c, .int .i64 k, .agg #[.string nm, .int .i64 v, .string cd]] w fun e w' => e = .returned (.tuple #[.agg (bankC (extV xs k (meaV nm v cd))), .agg #[.int .i64 k, .int .i64 (meaV nm v cd)], .nilIface]) ∧ Below w.heap.size w w' := by
  have HS := hide (show c.size = 8 by rw [hc, bankC_size, hl])
  have ME := hide (fun (W : World) (h : Image.Has W) => Image.measure_any nm cd v W hn hcd h)
  have EX := hide (fun (W : World) => Bank.extend_any xs c k (meaV nm v cd) W hc hl)
  have HSE := hide (show (bankC (extV xs k (meaV nm v cd))).size = 8 by rw [bankC_size, extV_len hl])
  have HOE := hide (Bank.bankC_one (extV xs k (meaV nm v cd)))
  rw [hE, errV_zero] at ME
  rw [hk, errV_zero] at EX
  unfold imgC at ME
  have HF := hide (four w (.cells c 38) (.cells #[.string nm, .int .i64 v, .string cd] 63) (.cells #[.int .i64 0, .int .i64 0, .int .i64 0, .int .i64 0, .int .i64 0, .int .i64 0, .int .i64 0, .int .i64 0] 38) (.cells #[.int .i64 0, .int .i64 0] 93))
  have HH := hide (hh.below HF.out.1)
  clear hc hl hE hk hh hn hcd
  generalize bankC (extV xs k (meaV nm v cd)) = cE at *
  generalize meaV nm v cd = m at *
  go_enter Tryd.func56, Tryd.ntmps56
  go_wp2_with (fail)
  refine (ME.out _ HH.out).mono ?_
  rintro e w5 ⟨rfl, hb5⟩
  have HB5 := hide (below_on HF.out.1 hb5)
  have HG5 := hide (blk_below HF.out.2.1 hb5)
  have HR5 := hide (blk_below HF.out.2.2.2.1 hb5)
  have HE5 := hide (blk_below HF.out.2.2.2.2 hb5)
  clear hb5 HF HH ME
  go_wp2_with ((with_reducible refine Bank.wpl_load 3 ?_ ?_ _ ?_ _ _ HG5.out HS.out ?_); rfl; rfl; rfl)
  refine (EX.out _).mono ?_
  rintro e w6 ⟨rfl, hb6⟩
  have hq := below_on hb6 (below_new w6 (.cells cE 38))
  have HB7 := hide (below_on HB5.out hq)
  have HL7 := hide (blk_new w6 (.cells cE 38))
  have HR7 := hide (blk_below HR5.out hq)
  have HE7 := hide (blk_below HE5.out hq)
  have HE8 := hide ((setRow_other (w6.alloc (.cells cE 38)) (w.heap.size + 2) (w.heap.size + 3) cE (by omega)).trans HE7.out)
  have HR9 := hide ((setRow_other ((w6.alloc (.cells cE 38)).setRow (w.heap.size + 2) cE) (w.heap.size + 3) (w.heap.size + 2) #[.int .i64 k, .int .i64 m] (by omega)).trans (setRow_heap _ _ _ _ _ _ HR7.out))
  clear hb6 hq EX HG5 HR5 HE5 HB5
  obtain ⟨c80, c81⟩ := seal_cells (b := w.heap.size + 1 + 1 + 1) HE8.out
  obtain ⟨f80, f81⟩ := seal_free (b := w.heap.size + 1 + 1 + 1) HE8.out
  go_wp2_with (first | ((with_reducible refine Bank.wpl_store_new 11 27 _ _ ?_ ?_ ?_ ?_ Bank.noBank_size HSE.out HOE.out ?_); rfl; rfl; rfl; rfl) | ((with_reducible refine Bank.wpl_load 11 ?_ ?_ _ ?_ _ _ HL7.out HSE.out ?_); rfl; rfl; rfl) | ((with_reducible refine Bank.wpl_store 6 34 ?_ ?_ _ ?_ _ _ ?_ HR7.out Bank.noBank_size HSE.out HOE.out ?_); rfl; rfl; rfl; rfl))
  rw [two_set (b := w.heap.size + 1 + 1 + 1) HE8.out]
  refine bodyPost_ret (v := .tuple #[.agg cE, .agg #[.int .i64 k, .int .i64 m], .nilIface]) ?_ rfl ⟨?_, ?_⟩
  · exact results_meas (p := 6) (u := 7) (t := 8) rfl _ _ (w.heap.size + 2) (w.heap.size + 3) _ _ _ rfl rfl rfl HR9.out HSE.out (setRow_heap _ _ _ _ _ _ HE8.out) rfl
  · rfl
  · exact below_setRow (below_setRow HB7.out (by omega) _) (by omega) _
end Go.Proofs.YtidnjnhmkhekeaaDoor.Boot
