/-
  EventCodes, walked. No condition.
-/
import Derived.Test.YtgacfihidpijeaaZD43
import Derived.Test.YtgacfihidpijeaaZD44
import Derived.Test.YtgacfihidpijeaaZD45
import Derived.Test.YtgacfihidpijeaaZD5
import Derived.Test.YtgacfihidpijeaaZD48
import Derived.Test.YtgacfihidpijeaaZD53
import Derived.Test.YtgacfihidpijeaaZD34
set_option linter.unusedVariables false
namespace Go.Proofs.Ytgacfihidpijeaa.EV
open Go Go.RowKit Go.Proofs.Ytgacfihidpijeaa.MM Go.Proofs.Ytgacfihidpijeaa.EM Go.Proofs.Ytgacfihidpijeaa.VM
open Go.Proofs.Ytgacfihidpijeaa.VP

set_option maxRecDepth 100000 in
set_option maxHeartbeats 4000000 in
theorem codes_walk (z : Int) (u : Value) (es : List Ev) (b : Value) (l : List UInt8) (w : World) (hb : BRow w b l) (hr : RAny evC w u es) (hf : ∀ e ∈ es, FitE e) :
    Calls Try.prog 6 #[.agg #[.int .i64 z, u], b] w fun e w' => e = .returned (.bool true) ∧ Below w.heap.size w w' := by
  obtain ⟨p, cap, rfl, hlc, hcm, _⟩ := hr.shape
  unfold maxLen at hcm
  have hbx := btbox_below w z (.slice p es.length cap)
  have HL := Lib.hid (lightb_any z _ es _ (RAny.below hr hbx))
  have HR := Lib.hid hr
  have HB := Lib.hid hb
  have HF := Lib.hid hf
  clear hr hbx hb hf
  go_enter Try.func6, Try.ntmps6
  go_wp2_with fail
  refine HL.out.mono ?_
  rintro e w1 ⟨b1, rfl, hb1⟩
  obtain ⟨c0, c1, hbw⟩ := btbox_in hb1
  have HB1 := Lib.hid hb1
  have HBW1 := Lib.hid hbw
  clear hb1 HL
  cases b1 with
  | false =>
    clear hbw
    go_wp2_with fail
    refine (awake_any _).mono ?_
    rintro e w2 ⟨rfl, hb2⟩
    have HB2 := Lib.hid (HBW1.out.trans (hb2.mono HBW1.out.size))
    clear hb2
    go_wp2_with fail
    go_ret
    exact ⟨rfl, HB2.out⟩
  | true =>
    go_wp2_with fail
    refine (lcut_any w.heap.size b l w1 (BIn.below HB.out HBW1.out)).mono ?_
    rintro e w1' ⟨u1, rfl, hu1, rfl⟩
    obtain ⟨L, hL⟩ : ∃ L, cutL l = L := ⟨_, rfl⟩
    rw [hL] at hu1
    have HU1 := Lib.hid hu1
    have hs1 := hbw.size
    obtain ⟨ec, hec⟩ : ∃ ec, checkB (z, es) = ec := ⟨_, rfl⟩
    obtain ⟨X, hX⟩ : ∃ X, encR (z, es) = X := ⟨_, rfl⟩
    have HCE := Lib.hid (fun W (h : RAny evC W (.slice p es.length cap) es) => cencode_any z _ es W h HF.out)
    have HRE := Lib.hid (fun W (h : RAny evC W (.slice p es.length cap) es) => rencode_any z _ es W h HF.out)
    rw [hec, hX] at HCE HRE
    clear hbw hu1 hL HB hec hX
    go_wp2_with fail
    refine (HCE.out w1' (HR.out.below HBW1.out)).mono ?_
    rintro e w2 ⟨x2, rfl, ho2, hb2⟩
    have HO2 := Lib.hid ho2.brow
    have HBB2 := Lib.hid (HB1.out.trans (hb2.mono HB1.out.size))
    have HBW2 := Lib.hid (HBW1.out.trans (hb2.mono HBW1.out.size))
    have HU2 := Lib.hid (HU1.out.below (hb2.mono hs1))
    obtain ⟨d0, d1, _⟩ := btbox_in HBB2.out
    clear ho2 hb2 c0 c1 HB1 HBW1 HU1 HCE
    go_wp2_with fail
    refine (HRE.out w2 (HR.out.below HBW2.out)).mono ?_
    rintro e w3 ⟨x3, rfl, ho3, hb3⟩
    have HO3 := Lib.hid ho3.brow
    have HP3 := Lib.hid (BRow.below HO2.out hb3)
    have HBW3 := Lib.hid (HBW2.out.trans (hb3.mono HBW2.out.size))
    have HU3 := Lib.hid (HU2.out.below (hb3.mono HBW2.out.size))
    clear ho3 hb3 d0 d1 HBB2 HBW2 HU2 HRE HO2
    go_wp2_with fail
    refine (cdec_any u1 L w3 (HU3.out.row HBW3.out.size)).mono ?_
    have hgi := rdec_in w.heap.size u1 L
    obtain ⟨⟨⟨n, gs⟩, er⟩, hG⟩ : ∃ G, decR L = G := ⟨_, rfl⟩
    rw [hG] at hgi ⊢
    have HGI := Lib.hid hgi
    rintro e w4 ⟨u4, rfl, hu4, hb4⟩
    dsimp only at hu4 ⊢
    obtain ⟨p4, c4, rfl, _⟩ := hu4.shape
    obtain ⟨w5, hw5⟩ : ∃ w5, w4.alloc (.cells #[.int .i64 n, .slice p4 gs.length c4] 34) = w5 := ⟨_, rfl⟩
    have ha4 : Below w4.heap.size w4 w5 := by rw [← hw5]; exact (Below.refl _ _).alloc (Nat.le_refl _) _
    have x5 : Two w5 w4.heap.size 34 (.int .i64 n) (.slice p4 gs.length c4) := by rw [← hw5]; exact two_new w4 34 _ _
    have h35 := hb4.trans (ha4.mono hb4.size)
    have HW5 := Lib.hid hw5
    have HX5 := Lib.hid x5
    have HG5 := Lib.hid (RAny.below hu4 ha4)
    have HO5 := Lib.hid (BRow.below HO3.out h35)
    have HP5 := Lib.hid (BRow.below HP3.out h35)
    have HBW5 := Lib.hid (HBW3.out.trans (h35.mono HBW3.out.size))
    have HU5 := Lib.hid (HU3.out.below (h35.mono HBW3.out.size))
    clear hu4 hb4 ha4 x5 h35 hw5 hgi hG HO3 HP3 HBW3 HU3
    go_wp2_with fail
    rw [HW5.out]
    refine (HGI.out w5 HU5.out HBW5.out.size).mono ?_
    rintro e w6 ⟨u6, rfl, hu6, hb6⟩
    dsimp only at hu6 ⊢
    obtain ⟨p6, c6, rfl, _⟩ := hu6.shape
    obtain ⟨w7, hw7⟩ : ∃ w7, w6.alloc (.cells #[.int .i64 n, .slice p6 gs.length c6] 34) = w7 := ⟨_, rfl⟩
    have ha6 : Below w6.heap.size w6 w7 := by rw [← hw7]; exact (Below.refl _ _).alloc (Nat.le_refl _) _
    have x7 : Two w7 w6.heap.size 34 (.int .i64 n) (.slice p6 gs.length c6) := by rw [← hw7]; exact two_new w6 34 _ _
    have h57 := hb6.trans (ha6.mono hb6.size)
    have y7 := HX5.out.below h57 HX5.out.lt
    have m0 := y7.c0
    have m1 := y7.c1
    have n0 := x7.c0
    have n1 := x7.c1
    have e1 := BIn.conv (BRow.below HO5.out h57)
    have e2 := BIn.conv (BRow.below HP5.out h57)
    have HW7 := Lib.hid hw7
    have HG7 := Lib.hid (RAny.below HG5.out h57)
    have HH7 := Lib.hid (RAny.below hu6 ha6)
    have HBW7 := Lib.hid (HBW5.out.trans (h57.mono HBW5.out.size))
    rw [← hw7] at m0 m1 n0 n1 e1 e2
    clear hu6 hb6 ha6 x7 y7 h57 hw7 HGI HX5 HG5 HO5 HP5 HBW5 HU5
    go_wp2_with fail
    rw [HW7.out]
    refine (samebat_any n n _ _ gs gs w7 HG7.out HH7.out).mono ?_
    rintro e w8 ⟨rfl, hb8⟩
    rw [decide_eq_true (rfl : (n, gs) = (n, gs))]
    have HBW8 := Lib.hid (HBW7.out.trans (hb8.mono HBW7.out.size))
    clear hb8 m0 m1 n0 n1 e1 e2 HG7 HH7 HBW7
    go_wp2_with fail
    refine (awake_any _).mono ?_
    rintro e w9 ⟨rfl, hb9⟩
    have HEND := Lib.hid (HBW8.out.trans (hb9.mono HBW8.out.size))
    clear hb9
    go_wp2_with fail
    go_ret
    exact ⟨rfl, HEND.out⟩

set_option maxRecDepth 100000 in
theorem codes_call (cs0 : Array Value) (e0 : Bat) (b : Value) (l : List UInt8) (W : World) (h0 : batC.on (fun _ => True) W cs0.toList e0) (hg : FitBat e0) (hb : BRow W b l) :
    Calls Try.prog 6 #[.agg cs0, b] W fun e W' => e = .returned (.bool true) ∧ Below W.heap.size W W' := by
  obtain ⟨v, hv, hr⟩ := bat_on.1 h0
  obtain rfl : cs0 = #[.int .i64 e0.1, v] := by apply Array.toList_inj.1; rw [hv]
  exact codes_walk e0.1 v e0.2 b l W hb hr.any fun e he => ⟨(hg.2.1 e he).1.1, (hg.2.1 e he).1.2⟩
end Go.Proofs.Ytgacfihidpijeaa.EV
