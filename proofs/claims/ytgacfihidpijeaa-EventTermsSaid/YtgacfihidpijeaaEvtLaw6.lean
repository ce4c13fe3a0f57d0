/-
  EventTerms, walked. No condition.
-/
import Derived.Test.YtgacfihidpijeaaEvtRTerms
import Derived.Test.YtgacfihidpijeaaEvtLight
import Derived.Test.YtgacfihidpijeaaIntsSame
import Derived.Test.YtgacfihidpijeaaFrameEv
set_option linter.unusedVariables false
namespace Go.Proofs.Ytgacfihidpijeaa.EV
open Go Go.RowKit Go.Proofs.Ytgacfihidpijeaa.MM Go.Proofs.Ytgacfihidpijeaa.EM

set_option maxRecDepth 100000 in
set_option maxHeartbeats 8000000 in
theorem law6_walk (z : Int) (v : Value) (fs : List Fld) (w : World) (hr : RAny fldC w v fs) : Calls Try.prog 8 #[.agg #[.int .i64 z, v]] w fun e w' => e = .returned (.bool true) ∧ Below w.heap.size w w' := by
  have hmx : Try.prog.follows .mixedOrders = true := by kernel_rfl
  obtain ⟨p, cap, rfl, hlc, hcm, _⟩ := hr.shape
  unfold maxLen at hcm
  have hbx := box_below w z (.slice p fs.length cap)
  have HL := Lib.hid (light_any z _ fs _ (hr.below hbx))
  have HR := Lib.hid hr
  have HBX := Lib.hid hbx
  clear hr hbx
  go_enter Try.func8, Try.ntmps8
  go_wp2_with fail
  refine HL.out.mono ?_
  rintro e w1 ⟨b, rfl, hb1⟩
  obtain ⟨c0, c1, hbw⟩ := box_in hb1
  have HB1 := Lib.hid hb1
  have HBW1 := Lib.hid hbw
  clear hb1
  cases b with
  | false =>
    clear hbw HL
    go_wp2_with fail
    refine (awake_any _).mono ?_
    rintro e w2 ⟨rfl, hb2⟩
    have HB2 := Lib.hid (grow HBW1.out hb2)
    clear hb2
    go_wp2_with fail
    go_ret
    exact ⟨rfl, HB2.out⟩
  | true =>
    have HC := Lib.hid (terms_any z _ fs _ (HR.out.below hbw))
    obtain ⟨T, hT⟩ : ∃ T, termsE (z, fs) = T := ⟨_, rfl⟩
    rw [hT] at HC
    clear hbw HL
    go_wp2_with fail
    refine HC.out.mono ?_
    rintro e w2 ⟨u, rfl, hu, hb2⟩
    have HBW2 := Lib.hid (grow HBW1.out hb2)
    have hb12 := HB1.out.trans (hb2.mono HB1.out.size)
    have HB2 := Lib.hid hb12
    clear hb2 c0 c1 HC
    obtain ⟨c0, c1, hbw⟩ := box_in hb12
    have HD := Lib.hid (rterms_any z _ fs _ (HR.out.below hbw))
    rw [hT] at HD
    obtain ⟨p1, cap1, rfl, hl1, hm1, _⟩ := hu.shape
    unfold maxLen at hm1
    have HU2 := Lib.hid hu
    clear hbw hb12 hT hu
    go_wp2_with fail
    refine HD.out.mono ?_
    rintro e w3 ⟨u2, rfl, hu2, hb3⟩
    obtain ⟨p2, cap2, rfl, hl2, hm2, _⟩ := hu2.shape
    unfold maxLen at hm2
    have HU3 := Lib.hid (HU2.out.below hb3)
    have HV3 := Lib.hid hu2
    have HBW3 := Lib.hid (grow HBW2.out hb3)
    obtain ⟨n, hn⟩ : ∃ n, T.length = n := ⟨_, rfl⟩
    have HN := Lib.hid hn
    rw [hn] at HU3 HV3 hl1 hl2 ⊢
    clear hu2 hb3 c0 c1 HU2 HD hn
    go_wp2_with fail
    go_loopw [5] (fun iv wr => ∃ i : Nat, i ≤ n ∧ iv = .int .i64 i ∧ Hid (Below w3.heap.size w3 wr)) (fun iv _ => n - (intOf iv).toNat)
    case atStart => exact ⟨0, by omega, rfl, Lib.hid (Below.refl _ _)⟩
    case round =>
      obtain ⟨i, hi, rfl, HB⟩ := hrel
      by_cases hlt : i < n
      · have q1 : decide ((i : Int) < (n : Int)) = true := by rw [decide_eq_true_eq]; omega
        have q2 : decide (i < n) = true := by rw [decide_eq_true_eq]; omega
        have ha : i < T.length := by rw [HN.out]; exact hlt
        obtain ⟨b1, o1, v1, rfl, hb1, _, e1, e2, hf1⟩ := trm_at (HU3.out.below HB.out) ha
        obtain ⟨b2, o2, v2, rfl, hb2, _, e3, e4, hf2⟩ := trm_at (HV3.out.below HB.out) ha
        generalize T[i] = X at *
        obtain ⟨xs, zs⟩ := X
        dsimp only at e1 e2 e3 e4 hf1 hf2
        have q3 : (i : Int) < (n : Int) := by omega
        have HLT := Lib.hid hlt
        clear ha
        go_wp2_with fail
        refine RG.begin_ [(0, true), (1, true), (2, true), (3, true), (4, true), (5, true), (6, true), (7, true), (8, true), (9, true), (10, true), (11, true), (12, true), (13, true), (14, true), (15, true), (16, true), (17, true), (18, true), (19, true), (20, true), (21, true), (22, false), (23, true), (24, true)] (by kernel_rfl) (by kernel_rfl) rfl (by kernel_rfl) (fun _ _ d _ _ h => by cases d <;> exact h) ?_
        simp only [RG.ordered, List.map_cons, List.map_nil, List.getElem?_toArray, List.getElem?_cons_succ, List.getElem?_cons_zero]
        obtain ⟨wd, hwd⟩ : ∃ wd, wr.drew = wd := ⟨_, rfl⟩
        have hbd : Below wr.heap.size wr wd := by rw [← hwd]; exact (Below.refl _ _).drew
        have G := Lib.hid (fun W (hW : Below wd.heap.size wd W) => (show W.cell? ⟨b1, o1 + i * 2, none⟩ = some (.string ⟨xs.toArray⟩) ∧ W.cell? ⟨b1, o1 + i * 2 + 1, none⟩ = some v1 ∧ W.cell? ⟨b2, o2 + i * 2, none⟩ = some (.string ⟨xs.toArray⟩) ∧ W.cell? ⟨b2, o2 + i * 2 + 1, none⟩ = some v2 from
          ⟨((grow hbd hW).cell (p := ⟨b1, o1 + i * 2, none⟩) hb1).trans e1, ((grow hbd hW).cell (p := ⟨b1, o1 + i * 2 + 1, none⟩) hb1).trans e2, ((grow hbd hW).cell (p := ⟨b2, o2 + i * 2, none⟩) hb2).trans e3, ((grow hbd hW).cell (p := ⟨b2, o2 + i * 2 + 1, none⟩) hb2).trans e4⟩))
        have hcall := sameints_any v1 v2 zs zs wd (RAny.below hf1.any hbd) (RAny.below hf2.any hbd)
        rw [show decide (zs = zs) = true from decide_eq_true rfl] at hcall
        have HCALL := Lib.hid hcall
        have HBD := Lib.hid (HB.out.trans (hbd.mono HB.out.size))
        change RG.walk _ _ _ _ _ wr.drew
        rw [hwd]
        clear hwd hbd hf1 hf2 e1 e2 e3 e4 hb1 hb2 hcall hlt
        repeat (refine RG.take (by rfl) (by intro W hW; obtain ⟨f1, f2, f3, f4⟩ := G.out W hW; go_simp; first | with_reducible rfl | (rw [if_pos HLT.out])) ?_; simp only [Act.put, List.setIfInBounds_toArray, List.set_cons_zero, List.set_cons_succ])
        repeat (refine RG.take (by rfl) (by intro W hW; obtain ⟨f1, f2, f3, f4⟩ := G.out W hW; go_simp; first | with_reducible rfl | (rw [if_pos HLT.out])) ?_; simp only [Act.put, List.setIfInBounds_toArray, List.set_cons_zero, List.set_cons_succ])
        refine RG.alone (by rfl) (fun K hK => ?_)
        go_simp
        refine HCALL.out.mono ?_
        rintro e w7 ⟨rfl, hbel⟩
        go_simp
        refine hK.out _ _ hbel ?_
        clear hK K HCALL
        have HB8 := Lib.hid (HBD.out.trans (hbel.mono HBD.out.size))
        clear hbel
        repeat (refine RG.take (by rfl) (by intro W hW; go_simp; with_reducible rfl) ?_; simp only [Act.put, List.setIfInBounds_toArray, List.set_cons_zero, List.set_cons_succ])
        refine RG.done ?_
        clear G
        go_wp2_with fail
        have hlt := HLT.out
        go_roundw
        case rel => exact ⟨i + 1, by omega, by go_num, HB8⟩
        case measure => simp [intOf]; omega
      · obtain rfl : i = n := by omega
        have q1 : decide ((i : Int) < (i : Int)) = false := by simp
        have q2 : decide (i < i) = false := by simp
        clear hlt
        go_wp2_with fail
        refine (awake_any _).mono ?_
        rintro e w9 ⟨rfl, hb9⟩
        have HB9 := Lib.hid (grow (grow HBW3.out HB.out) hb9)
        clear hb9
        go_wp2_with fail
        go_ret
        exact ⟨rfl, HB9.out⟩
set_option maxRecDepth 100000 in
/-- The law's call, the event as its cells. -/
theorem law6_call (cs : Array Value) (e : Ev) (w : World) (h : evC.on (fun _ => True) w cs.toList e) : Calls Try.prog 8 #[.agg cs] w fun e w' => e = .returned (.bool true) ∧ Below w.heap.size w w' := by
  obtain ⟨v, rfl, hr⟩ := ev_cells h
  exact law6_walk e.1 v e.2 w hr.any
end Go.Proofs.Ytgacfihidpijeaa.EV
