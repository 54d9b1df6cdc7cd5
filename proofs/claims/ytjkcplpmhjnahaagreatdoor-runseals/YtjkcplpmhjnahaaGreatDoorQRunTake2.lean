/-
  Package run's (*desk).take where the words are as many as they should be.
-/
import Derived.Test.YtjkcplpmhjnahaaGreatDoorQRunTake
namespace Go.Proofs.YtjkcplpmhjnahaaGreatDoor.Run
open Go.ChangeShapes Go.WideShapes Go.ChangeAt Go.RowKit
open Go.Proofs.YtjkcplpmhjnahaaGreatDoor.M Go.Proofs.YtjkcplpmhjnahaaGreatDoor.Image
set_option linter.unusedVariables false

set_option maxRecDepth 100000 in
set_option maxHeartbeats 4000000 in
theorem take_plain (w : World) (B g mb gc : Nat) (bb : Addr) (SC : Nat → Prop) (d : Dk) (p0 : ByteArray) (a : Option Addr) (ws : List ByteArray) (m cap : Nat) (h : Given w B g mb gc bb SC d) (hp : p0.size ≤ 3000) (hW : wantW p0.data.toList = some (false, m)) (hl : ws.length = m) (ht : TxtIn w a ws) (hz : ∀ x ∈ ws, x.size ≤ 3000) (hc : cap = ws.length) (A : List UInt8 × Dk) (hA : A = wordsA d (p0.data.toList :: ws.map (fun x => x.data.toList))) :
    Calls Tryz.prog 34 #[.pointer (some ⟨g, 0, none⟩), .string p0, .slice a ws.length cap] w (Ans w B g mb gc bb SC A) := by
  have hm4 : m ≤ 4 := by rcases want_cases hW with ⟨_, _, rfl⟩ | ⟨_, _, rfl⟩ | ⟨_, _, rfl⟩ | ⟨_, _, rfl⟩ | ⟨_, _, rfl⟩ | ⟨_, _, rfl⟩ | ⟨_, _, rfl⟩ | ⟨_, _, rfl⟩ <;> omega
  have HG := hide h
  have hV : wantV p0.data.toList = (0, (m : Int), true) := by unfold wantV; rw [hW]; rfl
  have lk := wmap_look h.desk.map p0 (by omega)
  rw [hV] at lk
  have c9 := h.desk.c9
  rw [words_plain hW (by rw [List.length_map]; exact hl)] at hA
  have HA := hide hA
  have RD := hide (fun (W : World) (hW : Kb w W) (a' : Option Addr) (c' : Nat) (ht' : TxtIn W a' ws) => read_any ws a' c' bb W ht' hz (by omega) (h.has.kb h.desk hW) (h.bad.below hW))
  have HT := hide (fun (W : World) (hW : Kb w W) => ht.below hW)
  have HTE := hide ht
  have HWN := hide hW
  have HL := hide hl
  have hw : IntKind.i64.wrap (m : Int) = (m : Int) := wrap_mid (by omega) (by omega)
  rw [hl] at hc ⊢
  subst hc
  have hm0 : (0 : Int) ≤ (cap : Int) := by omega
  rw [hl] at RD
  clear h hp hV hA hz ht hW hl
  go_enter Tryz.func34, Tryz.ntmps34
  go_wp2_with (fail)
  refine (contains_nil _ _ _).mono ?_
  rintro e w2 ⟨rfl, rfl⟩
  go_wp2_with (fail)
  refine (RD.out _ (kb_new _ _) a cap (HT.out _ (kb_new _ _))).mono ?_
  rintro e w3 ⟨hr, hb3⟩
  have K3 := kb_below (w := w) (kb_new _ _) hb3
  have hz3 := hb3.size
  clear hb3 RD HT lk c9
  cases hq : numsL (ws.map (fun x => x.data.toList)) with
  | none =>
    rw [hq] at hr HA
    have hr : e = .returned (.tuple #[.slice none 0 0, .iface 190 (.pointer (some bb))]) := hr
    subst hr
    clear hq hz3
    have HK3 := hide K3
    clear K3
    go_wp2
    go_ret2
    exact ans_bad HG.out.desk HK3.out HA.out rfl
  | some ns =>
    rw [hq] at hr HA
    obtain ⟨v, rfl, hown⟩ := hr
    obtain ⟨a3, c3, rfl, hN⟩ := nums_own HG.out.desk (by simp) K3.size hown
    have hln : ns.length = cap := by rw [numsL_len hq, List.length_map]; exact HL.out
    have DO := hide (do_any w3 B g mb gc SC d p0 { data := #[] } (.slice a 0 cap) false _ ns a3 c3 HWN.out hln (HG.out.desk.below K3) (HG.out.has.on (HG.out.desk.base (lx_kb K3))) (fun h => by cases h) hN (numsL_lt hq))
    have HK3 := hide K3
    have HQ := hide hq
    generalize ns.length = nl at *
    clear K3 hq hz3 hown hN hln
    go_wp2_with (fail)
    refine DO.out.mono ?_
    rintro e w4 ⟨⟨t4, k4, k40, k49, rfl, hA4⟩, hD4, hO4⟩
    have HD4 := hide hD4
    have HO4 := hide hO4
    clear hD4 hO4 DO
    go_wp2
    go_ret2
    rw [HA.out]
    exact ans_done HK3.out ⟨⟨t4, k4, k40, k49, rfl, hA4⟩, HD4.out, HO4.out⟩
set_option maxRecDepth 100000 in
set_option maxHeartbeats 4000000 in
theorem take_named (w : World) (B g mb gc : Nat) (bb : Addr) (SC : Nat → Prop) (d : Dk) (p0 nm : ByteArray) (b off : Nat) (ws : List ByteArray) (m cap : Nat) (h : Given w B g mb gc bb SC d) (hp : p0.size ≤ 3000) (hW : wantW p0.data.toList = some (true, m)) (hl : ws.length = m) (hbl : b < w.heap.size) (hnd : ¬ (b = g ∨ SC b)) (ht : ∀ (k : Nat) x, (nm :: ws)[k]? = some x → w.cell? ⟨b, off + k, none⟩ = some (.string x)) (hz : ∀ x ∈ nm :: ws, x.size ≤ 3000) (hc : cap = ws.length) (A : List UInt8 × Dk) (hA : A = wordsA d (p0.data.toList :: nm.data.toList :: ws.map (fun x => x.data.toList))) :
    Calls Tryz.prog 34 #[.pointer (some ⟨g, 0, none⟩), .string p0, .slice (some ⟨b, off, none⟩) (ws.length + 1) (cap + 1)] w (Ans w B g mb gc bb SC A) := by
  have hm4 : m ≤ 4 := by rcases want_cases hW with ⟨_, _, rfl⟩ | ⟨_, _, rfl⟩ | ⟨_, _, rfl⟩ | ⟨_, _, rfl⟩ | ⟨_, _, rfl⟩ | ⟨_, _, rfl⟩ | ⟨_, _, rfl⟩ | ⟨_, _, rfl⟩ <;> omega
  have HG := hide h
  have hV : wantV p0.data.toList = (1, (m : Int), true) := by unfold wantV; rw [hW]; rfl
  have lk := wmap_look h.desk.map p0 (by omega)
  rw [hV] at lk
  have c9 := h.desk.c9
  have HCN := hide (fun (W : World) (hW : Kb w W) => contains_one b off (cap + 1) nm W ((hW.cell (p := ⟨b, off, none⟩) hbl).trans (ht 0 nm rfl)))
  have HWN := hide hW
  have HL := hide hl
  have hw : IntKind.i64.wrap (1 + (m : Int)) = 1 + (m : Int) := wrap_mid (by omega) (by omega)
  have hNM : ∀ W, Kb w W → NameAt W g SC (.slice (some ⟨b, off, none⟩) 1 (cap + 1)) nm := fun W hW => ⟨b, off, _, rfl, fun W' hW' => by
    have h1 : W.cell? ⟨b, off, none⟩ = some (.string nm) := (hW.cell (p := ⟨b, off, none⟩) hbl).trans (ht 0 nm rfl)
    have h2 := hW'.2.2.2.2 b (Nat.lt_of_lt_of_le hbl hW.size) hnd
    exact (World.cell?_of_block (a := ⟨b, off, none⟩) h2).trans h1⟩
  have HNM := hide hNM
  have HZN := hide (hz nm (by simp))
  have HT : Hid (∀ W, Kb w W → TxtIn W (if cap = 0 then some ⟨b, off, none⟩ else some ⟨b, off + 1, none⟩) ws) := fun W hW => by
    cases ws with
    | nil => exact Or.inl rfl
    | cons y r =>
      rw [if_neg (by rw [hc]; simp)]
      refine Or.inr ⟨b, off + 1, rfl, Nat.lt_of_lt_of_le hbl hW.size, fun k x hx => ?_⟩
      rw [show off + 1 + k = off + (k + 1) by omega]
      exact (hW.cell (p := ⟨b, off + (k + 1), none⟩) hbl).trans (ht (k + 1) x hx)
  have RD := hide (fun (W : World) (hW : Kb w W) (a' : Option Addr) (c' : Nat) (ht' : TxtIn W a' ws) => read_any ws a' c' bb W ht' (fun x hx => hz x (by simp [hx])) (by omega) (h.has.kb h.desk hW) (h.bad.below hW))
  have HA := hide hA
  rw [hl] at hc RD ⊢
  subst hc
  have hm0 : (0 : Int) ≤ (cap : Int) := by omega
  have hm1 : (1 : Int) ≤ (cap : Int) + 1 := by omega
  by_cases he : nm.size = 0
  · have hA2 : A = (ansBad, d) := by
      rw [hA, show nm.data.toList = [] from List.length_eq_zero_iff.1 (by rw [len_size]; exact he)]
      exact words_empty hW (by rw [List.length_map]; exact HL.out)
    rw [decide_eq_true he] at HCN
    have HA2 := hide hA2
    have b1 := (h.bad.below (kb_new w (.cells #[.int .i64 1, .int .i64 cap] 70))).1
    clear h hp hV hA hA2 hz ht hW hl hNM RD HT he HA hbl hnd
    go_enter Tryz.func34, Tryz.ntmps34
    go_wp2_with (fail)
    refine (HCN.out _ (kb_new _ _)).mono ?_
    rintro e w2 ⟨rfl, rfl⟩
    go_wp2_with (fail)
    go_region
    all_goals
      go_wp2
      go_ret2
      exact ans_bad HG.out.desk (by with_reducible repeat (first | exact kb_new _ _ | apply kb_drew)) HA2.out rfl
  · rw [words_named hW (by rw [List.length_map]; exact hl) (fun e => he (by rw [← len_size, e]; rfl))] at HA
    rw [decide_eq_false he] at HCN
    by_cases hcz : cap = 0
    · have HT0 : Hid (∀ W, Kb w W → TxtIn W (some ⟨b, off, none⟩) ws) := fun W hW => by
        have := HT.out W hW
        rw [if_pos hcz] at this
        exact this
      subst hcz
      clear h hp hV hA hz ht hW hl hNM he hbl hnd
      go_enter Tryz.func34, Tryz.ntmps34
      go_wp2_with (fail)
      refine (HCN.out _ (kb_new _ _)).mono ?_
      rintro e w2 ⟨rfl, rfl⟩
      go_wp2_with (fail)
      refine (RD.out _ (kb_new _ _) (some ⟨b, off, none⟩) 0 (HT0.out _ (kb_new _ _))).mono ?_
      rintro e w3 ⟨hr, hb3⟩
      have K3 := kb_below (w := w) (kb_new _ _) hb3
      have hz3 := hb3.size
      clear hb3 RD HT HT0 lk c9
      cases hq : numsL (ws.map (fun x => x.data.toList)) with
      | none =>
        rw [hq] at hr HA
        have hr : e = .returned (.tuple #[.slice none 0 0, .iface 190 (.pointer (some bb))]) := hr
        subst hr
        clear hq hz3
        have HK3 := hide K3
        clear K3
        go_wp2
        go_ret2
        exact ans_bad HG.out.desk HK3.out HA.out rfl
      | some ns =>
        rw [hq] at hr HA
        obtain ⟨v, rfl, hown⟩ := hr
        obtain ⟨a3, c3, rfl, hN⟩ := nums_own HG.out.desk (by simp) K3.size hown
        have hln : ns.length = 0 := by rw [numsL_len hq, List.length_map]; exact HL.out
        have DO := hide (do_any w3 B g mb gc SC d p0 nm (.slice (some ⟨b, off, none⟩) 1 (0 + 1)) true _ ns a3 c3 HWN.out hln (HG.out.desk.below K3) (HG.out.has.on (HG.out.desk.base (lx_kb K3))) (fun _ => ⟨HNM.out w3 K3, HZN.out⟩) hN (numsL_lt hq))
        have HK3 := hide K3
        have HQ := hide hq
        generalize ns.length = nl at *
        clear K3 hq hz3 hown hN hln
        go_wp2_with (fail)
        refine DO.out.mono ?_
        rintro e w4 ⟨⟨t4, k4, k40, k49, rfl, hA4⟩, hD4, hO4⟩
        have HD4 := hide hD4
        have HO4 := hide hO4
        clear hD4 hO4 DO
        go_wp2
        go_ret2
        rw [HA.out]
        exact ans_done HK3.out ⟨⟨t4, k4, k40, k49, rfl, hA4⟩, HD4.out, HO4.out⟩
    · have HT1 : Hid (∀ W, Kb w W → TxtIn W (some ⟨b, off + 1, none⟩) ws) := fun W hW => by
        have := HT.out W hW
        rw [if_neg hcz] at this
        exact this
      clear h hp hV hA hz ht hW hl hNM he hbl hnd
      go_enter Tryz.func34, Tryz.ntmps34
      go_wp2_with (fail)
      refine (HCN.out _ (kb_new _ _)).mono ?_
      rintro e w2 ⟨rfl, rfl⟩
      go_wp2_with (fail)
      refine (RD.out _ (kb_new _ _) (some ⟨b, off + 1, none⟩) cap (HT1.out _ (kb_new _ _))).mono ?_
      rintro e w3 ⟨hr, hb3⟩
      have K3 := kb_below (w := w) (kb_new _ _) hb3
      have hz3 := hb3.size
      clear hb3 RD HT HT1 lk c9
      cases hq : numsL (ws.map (fun x => x.data.toList)) with
      | none =>
        rw [hq] at hr HA
        have hr : e = .returned (.tuple #[.slice none 0 0, .iface 190 (.pointer (some bb))]) := hr
        subst hr
        clear hq hz3
        have HK3 := hide K3
        clear K3
        go_wp2
        go_ret2
        exact ans_bad HG.out.desk HK3.out HA.out rfl
      | some ns =>
        rw [hq] at hr HA
        obtain ⟨v, rfl, hown⟩ := hr
        obtain ⟨a3, c3, rfl, hN⟩ := nums_own HG.out.desk (by simp) K3.size hown
        have hln : ns.length = cap := by rw [numsL_len hq, List.length_map]; exact HL.out
        have DO := hide (do_any w3 B g mb gc SC d p0 nm (.slice (some ⟨b, off, none⟩) 1 (cap + 1)) true _ ns a3 c3 HWN.out hln (HG.out.desk.below K3) (HG.out.has.on (HG.out.desk.base (lx_kb K3))) (fun _ => ⟨HNM.out w3 K3, HZN.out⟩) hN (numsL_lt hq))
        have HK3 := hide K3
        have HQ := hide hq
        generalize ns.length = nl at *
        clear K3 hq hz3 hown hN hln
        go_wp2_with (fail)
        refine DO.out.mono ?_
        rintro e w4 ⟨⟨t4, k4, k40, k49, rfl, hA4⟩, hD4, hO4⟩
        have HD4 := hide hD4
        have HO4 := hide hO4
        clear hD4 hO4 DO
        go_wp2
        go_ret2
        rw [HA.out]
        exact ans_done HK3.out ⟨⟨t4, k4, k40, k49, rfl, hA4⟩, HD4.out, HO4.out⟩
end Go.Proofs.YtjkcplpmhjnahaaGreatDoor.Run
