/-
  EventBack, walked. No condition.
-/
import Derived.Test.YtgacfihidpijeaaZE33
import Derived.Test.YtgacfihidpijeaaZE35
import Derived.Test.YtgacfihidpijeaaZE36
import Derived.Test.YtgacfihidpijeaaZE2
import Derived.Test.YtgacfihidpijeaaZE45
import Derived.Test.YtgacfihidpijeaaZE51
import Derived.Test.YtgacfihidpijeaaZE52
import Derived.Test.YtgacfihidpijeaaZE46
import Derived.Test.YtgacfihidpijeaaZE53
set_option linter.unusedVariables false
namespace Go.Proofs.Ytgacfihidpijeaa.EV
open Go Go.RowKit Go.Proofs.Ytgacfihidpijeaa.MM Go.Proofs.Ytgacfihidpijeaa.EM Go.Proofs.Ytgacfihidpijeaa.VM
open Go.Proofs.Ytgacfihidpijeaa.VP

theorem own_zero (w : World) (B : Nat) (hB : B ≤ w.heap.size) : OwnB B (w.alloc (.cells #[.int .u8 0] 5)) (.slice (some ⟨w.heap.size, 0, none⟩) 1 1) [0] := own_lit w [.int .u8 0] 5 B hB (by unfold maxLen; simp)
theorem encB_pos (b : Bat) : 0 < (encB b).length := by
  have := (bytesL_length b.1.toNat).1
  unfold encB
  simp only [List.length_append]
  omega

set_option maxRecDepth 100000 in
set_option maxHeartbeats 4000000 in
theorem back_walk (z : Int) (u : Value) (es : List Ev) (b : Value) (l : List UInt8) (at_ : Nat) (w : World) (hb : BRow w b l) (hr : RAny evC w u es) (hf : ∀ e ∈ es, FitE e) (hat : at_ < 65536) :
    Calls Try.prog 7 #[.agg #[.int .i64 z, u], b, .int .u16 at_] w fun e w' => e = .returned (.bool true) ∧ Below w.heap.size w w' := by
  have hmx : Try.prog.follows .mixedOrders = true := by kernel_rfl
  obtain ⟨p, cap, rfl, hlc, hcm, hnil⟩ := hr.shape
  unfold maxLen at hcm
  have hbx := btbox_below w z (.slice p es.length cap)
  have HL := Lib.hid (lightb_any z _ es _ (RAny.below hr hbx))
  have HR := Lib.hid hr
  have HB := Lib.hid hb
  have HF := Lib.hid hf
  clear hr hbx hb hf hnil
  go_enter Try.func7, Try.ntmps7
  go_wp2_with fail
  refine HL.out.mono ?_
  rintro e w1 ⟨b1, rfl, hb1⟩
  obtain ⟨c0, c1, hbw⟩ := btbox_in hb1
  have HB1 := Lib.hid hb1
  have HBW1 := Lib.hid hbw
  clear hb1 HL
  cases b1 with
  | false =>
    clear hbw
    go_wp2_with fail
    refine (awake_any _).mono ?_
    rintro e w2 ⟨rfl, hb2⟩
    have HB2 := Lib.hid (HBW1.out.trans (hb2.mono HBW1.out.size))
    clear hb2
    go_wp2_with fail
    go_ret
    exact ⟨rfl, HB2.out⟩
  | true =>
    have hs1 := hbw.size
    obtain ⟨ec, hec⟩ : ∃ ec, checkB (z, es) = ec := ⟨_, rfl⟩
    obtain ⟨X, hX⟩ : ∃ X, encR (z, es) = X := ⟨_, rfl⟩
    have HCE := Lib.hid (fun W (h : RAny evC W (.slice p es.length cap) es) => cencode_any z _ es W h HF.out)
    rw [hec, hX] at HCE
    have HX := Lib.hid hX
    clear hbw hX
    go_wp2_with fail
    refine (HCE.out w1 (HR.out.below HBW1.out)).mono ?_
    rintro e w2 ⟨x2, rfl, ho2, hb2⟩
    obtain ⟨px, cx, rfl, _⟩ := ho2.brow.shape
    have HO2 := Lib.hid ho2.brow
    have HBB2 := Lib.hid (HB1.out.trans (hb2.mono HB1.out.size))
    have HBW2 := Lib.hid (HBW1.out.trans (hb2.mono HBW1.out.size))
    obtain ⟨d0, d1, _⟩ := btbox_in HBB2.out
    clear ho2 hb2 c0 c1 HB1 HBW1 HCE
    by_cases h0 : ec = 0
    · subst h0
      have hXe : X = encB (z, es) := by rw [← HX.out]; unfold encR; rw [if_pos hec]
      have hpos : 0 < X.length := by rw [hXe]; exact encB_pos _
      have hl1 : 1 ≤ es.length := (checkB_ok hec).1
      have hdput := decR_some (decB_put HF.out hec)
      have hdpart := fun k hk => decR_none (decB_part HF.out hec (k := k) hk)
      have hdmore := decR_none (decB_more HF.out hec 0)
      rw [← hXe] at hdput hdpart hdmore
      have HDP := Lib.hid hdput
      have HDT := Lib.hid hdpart
      have HDM := Lib.hid hdmore
      have hxl : X.length ≤ 9000000 := by
        have h64 := (checkB_ok hec).2.1
        have := enc_fits z.toNat es.length (checkB_ok hec).2.2.1 h64 es.length
        rw [List.take_length] at this
        rw [hXe]
        exact this
      have hck0 : checkE es[0] = 0 := (checkB_ok hec).2.2.1 _ (List.getElem_mem hl1)
      have hfe0 := HF.out es[0] (List.getElem_mem hl1)
      have HC0 := Lib.hid hck0
      have HF0 := Lib.hid hfe0
      have q1 : (((X.length : Nat) : Int) == 0) = false := by rw [beq_eq_false_iff_ne]; omega
      have q2 : (((es.length : Nat) : Int) == 0) = false := by rw [beq_eq_false_iff_ne]; omega
      obtain ⟨K, hK⟩ : ∃ K : Nat, at_ % X.length = K := ⟨_, rfl⟩
      have hKl : K < X.length := by rw [← hK]; exact Nat.mod_lt _ hpos
      have hmod : (at_ : Int) % ((X.length : Nat) : Int) = (K : Int) := by rw [← hK]; rfl
      clear hdput hdpart hdmore hXe hck0 hfe0 HX hK
      go_wp2_with fail
      refine (cdec_any _ X w2 HO2.out).mono ?_
      rw [HDP.out]
      rintro e w4 ⟨u4, rfl, hu4, hb4⟩
      dsimp only at hu4 ⊢
      obtain ⟨p4, c4, rfl, _⟩ := hu4.shape
      obtain ⟨w5, hw5⟩ : ∃ w5, w4.alloc (.cells #[.int .i64 z, .slice p4 es.length c4] 34) = w5 := ⟨_, rfl⟩
      have ha4 : Below w4.heap.size w4 w5 := by rw [← hw5]; exact (Below.refl _ _).alloc (Nat.le_refl _) _
      have x5 : Two w5 w4.heap.size 34 (.int .i64 z) (.slice p4 es.length c4) := by rw [← hw5]; exact two_new w4 34 _ _
      have h25 := hb4.trans (ha4.mono hb4.size)
      have HW5 := Lib.hid hw5
      have HX5 := Lib.hid x5
      have HG5 := Lib.hid (RAny.below hu4 ha4)
      have HO5 := Lib.hid (BRow.below HO2.out h25)
      have HBW5 := Lib.hid (HBW2.out.trans (h25.mono HBW2.out.size))
      have HBB5 := Lib.hid (HBB2.out.trans (h25.mono HBB2.out.size))
      clear hu4 hb4 ha4 x5 h25 hw5 HO2 HBW2 HBB2 d0 d1
      go_wp2_with fail
      rw [HW5.out]
      refine (cdec_any _ (X.take K) w5 (HO5.out.take K (by omega))).mono ?_
      rw [HDT.out K hKl]
      rintro e w6 ⟨u6, rfl, hu6, hb6⟩
      dsimp only at hu6 ⊢
      obtain ⟨p6, c6, rfl, _⟩ := hu6.shape
      obtain ⟨w7, hw7⟩ : ∃ w7, w6.alloc (.cells #[.int .i64 0, .slice p6 0 c6] 34) = w7 := ⟨_, rfl⟩
      have ha6 : Below w6.heap.size w6 w7 := by rw [← hw7]; exact (Below.refl _ _).alloc (Nat.le_refl _) _
      have h57 := hb6.trans (ha6.mono hb6.size)
      have hsz7 : w7.heap.size = w6.heap.size + 1 := by rw [← hw7]; simp
      have HW7 := Lib.hid hw7
      have HX7 := Lib.hid (HX5.out.below h57 HX5.out.lt)
      have HG7 := Lib.hid (RAny.below HG5.out h57)
      have HO7 := Lib.hid (BRow.below HO5.out h57)
      have HBW7 := Lib.hid (HBW5.out.trans (h57.mono HBW5.out.size))
      have HBB7 := Lib.hid (HBB5.out.trans (h57.mono HBB5.out.size))
      -- the empty literal, X behind it, a zero behind that
      have hl0 := own_empty1 w7 w7.heap.size (Nat.le_refl _)
      have hbl : Below w7.heap.size w7 (w7.alloc (.cells #[] 5)) := (Below.refl _ _).alloc (Nat.le_refl _) _
      have HL0 := Lib.hid hl0
      have HO8 := Lib.hid (BRow.below HO7.out hbl)
      have HBL := Lib.hid hbl
      have HE1 : Hid (w7.alloc (.cells #[] 5) = (w6.alloc (.cells #[.int .i64 0, .slice p6 0 c6] 34)).alloc (.cells #[] 5)) := Lib.hid (by rw [hw7])
      rw [HE1.out, hsz7] at HL0
      rw [HE1.out] at HO8
      have HW8 := Lib.hid (fun W (h : Below w7.heap.size ((w6.alloc (.cells #[.int .i64 0, .slice p6 0 c6] 34)).alloc (.cells #[] 5)) W) => HBL.out.trans (by rw [HE1.out]; exact h))
      have hsz8 : ((w6.alloc (.cells #[.int .i64 0, .slice p6 0 c6] 34)).alloc (.cells #[] 5)).heap.size = w6.heap.size + 2 := by simp
      clear hu6 hb6 ha6 h57 hw7 hl0 hbl HX5 HG5 HO5 HBW5 HBB5
      go_wp2_with (at_builtin; go_loud (first
        | (refine wpList_append_bytes rfl _ _ rfl (w6.heap.size + 1) _ [] rfl HL0.out _ X rfl HO8.out (by simp; omega) (by simp) ?_; intro v9 w9 ho9 hb9; rw [List.nil_append] at ho9; have h79 := HW8.out w9 (by rw [hsz7]; exact hb9); have hs9 := hb9.size; rw [hsz8] at hs9; have HL9 := Lib.hid (own_zero w9 (w6.heap.size + 1) (by omega)); have HO9 := Lib.hid (OwnB.keep ho9 ((Below.refl _ w9).alloc (Nat.le_refl _) (.cells #[.int .u8 0] 5))); have H79 := Lib.hid (h79.trans ((Below.refl _ w9).alloc (by omega : w7.heap.size ≤ w9.heap.size) (.cells #[.int .u8 0] 5))); clear ho9 hb9 h79)
        | (refine wpList_append_bytes rfl _ _ rfl (w6.heap.size + 1) _ X rfl HO9.out _ [0] rfl HL9.out.brow (by simp; omega) (by simp; omega) ?_; intro v10 w10 ho10 hb10; have HO10 := Lib.hid ho10; have H710 := Lib.hid (H79.out.trans (by rw [hsz7]; exact hb10)); clear ho10 hb10)))
      refine (cdec_any _ (X ++ [0]) w10 HO10.out.brow).mono ?_
      rw [HDM.out]
      rintro e w11 ⟨u11, rfl, hu11, hb11⟩
      dsimp only at hu11 ⊢
      obtain ⟨p11, c11, rfl, _⟩ := hu11.shape
      obtain ⟨w12, hw12⟩ : ∃ w12, w11.alloc (.cells #[.int .i64 0, .slice p11 0 c11] 34) = w12 := ⟨_, rfl⟩
      have ha11 : Below w11.heap.size w11 w12 := by rw [← hw12]; exact (Below.refl _ _).alloc (Nat.le_refl _) _
      have h712 : Below w7.heap.size w7 w12 := H710.out.trans ((hb11.trans (ha11.mono hb11.size)).mono H710.out.size)
      have x12 := HX7.out.below h712 HX7.out.lt
      have HG12 := Lib.hid (RAny.below HG7.out h712)
      have HBW12 := Lib.hid (HBW7.out.trans (h712.mono HBW7.out.size))
      have hbb12 := HBB7.out.trans (h712.mono HBB7.out.size)
      have HBB12 := Lib.hid hbb12
      obtain ⟨d0, d1, _⟩ := btbox_in hbb12
      have m0 := x12.c0
      have m1 := x12.c1
      have HW12 := Lib.hid hw12
      rw [← hw12] at d0 d1 m0 m1
      clear hu11 hb11 ha11 h712 x12 hbb12 hw12 HO7 HX7 HG7 HBW7 HBB7 HL0 HO8 HBL HE1 HW8 HO9 HL9 H79 H710 HO10
      go_wp2_with fail
      rw [HW12.out]
      refine (samebat_any z z _ _ es es w12 HG12.out (HR.out.below HBW12.out)).mono ?_
      rintro e w13 ⟨rfl, hb13⟩
      rw [decide_eq_true (rfl : (z, es) = (z, es))]
      have HBW13 := Lib.hid (HBW12.out.trans (hb13.mono HBW12.out.size))
      have hbb13 := HBB12.out.trans (hb13.mono HBB12.out.size)
      have HBB13 := Lib.hid hbb13
      clear d0 d1 m0 m1
      obtain ⟨d0, d1, _⟩ := btbox_in hbb13
      obtain ⟨be, oe, ve, rfl, hbe, _, k0, k1, hfe⟩ := ev_at (HR.out.below HBW13.out) (show 0 < es.length from hl1)
      rw [Nat.zero_mul, Nat.add_zero] at k0 k1
      have hC0 := HC0.out
      have hF0 := HF0.out
      obtain ⟨⟨z0, fs0⟩, hz0⟩ : ∃ e, es[0] = e := ⟨_, rfl⟩
      rw [hz0] at k0 hfe hC0 hF0
      change ROn fldC _ w13 ve fs0 at hfe
      change w13.cell? ⟨be, oe, none⟩ = some (.int .i64 z0) at k0
      obtain ⟨pe, ce, rfl, _⟩ := hfe.shape
      have hpb : putB [] (z0, fs0) = bytesE (z0, fs0) := by unfold putB; rw [if_pos hC0, List.nil_append]
      have HPUT := Lib.hid (cput_any (.slice none 0 0) [] z0 _ fs0 w13 (brow_nil _) (by simp) hfe.any hF0.1 hF0.2)
      rw [hpb, hC0] at HPUT
      have hget : getR (bytesE (z0, fs0) ++ cutL l) = ((z0, fs0), cutL l, 0) := getR_some (getE_put hF0 hC0 (cutL l))
      have hml := (ok_bytes hC0).2.2
      obtain ⟨M, hM⟩ : ∃ M, bytesE (z0, fs0) = M := ⟨_, rfl⟩
      rw [hM] at HPUT hget hml
      have HGET := Lib.hid hget
      have HRE := Lib.hid (fun W (h : Below w13.heap.size w13 W) => RAny.below hfe.any h)
      have HBE := Lib.hid (fun W (h : Below w13.heap.size w13 W) => And.intro ((h.cell (p := ⟨be, oe, none⟩) hbe).trans k0) ((h.cell (p := ⟨be, oe + 1, none⟩) hbe).trans k1))
      have q3 : (0 : Int) < (es.length : Int) := by omega
      have q4 : decide (0 < es.length) = true := by rw [decide_eq_true_eq]; omega
      have q5 : 0 < es.length := hl1
      clear hb13 hbb13 hz0 hfe hC0 hF0 hpb hget hM HG12 HBW12 HBB12 HC0 HF0
      go_wp2_with fail
      refine HPUT.out.mono ?_
      rintro e w14 ⟨y14, rfl, ho14, hb14⟩
      have HO14 := Lib.hid ho14.brow
      have HB14 := Lib.hid hb14
      have HBB14 := Lib.hid (HBB13.out.trans (hb14.mono HBB13.out.size))
      have HBW14 := Lib.hid (HBW13.out.trans (hb14.mono HBW13.out.size))
      have HBL := Lib.hid ((Below.refl _ w14).alloc (Nat.le_refl _) (.cells #[] 5))
      have HL0 := Lib.hid (own_empty1 w14 w14.heap.size (Nat.le_refl _))
      have HO15 := Lib.hid (BRow.below HO14.out HBL.out)
      clear ho14 hb14 k0 k1 d0 d1 HPUT
      go_wp2_with (at_builtin; go_loud (refine wpList_append_bytes rfl _ _ rfl w14.heap.size _ [] rfl HL0.out _ M rfl HO15.out (by simp; omega) (by simp) ?_; intro v16 w16 ho16 hb16; rw [List.nil_append] at ho16; have HO16 := Lib.hid ho16; have H1416 := Lib.hid (HBL.out.trans hb16); clear ho16 hb16))
      refine (lcut_any w.heap.size b l w16 (BIn.below HB.out (HBW14.out.trans (H1416.out.mono HBW14.out.size)))).mono ?_
      rintro e w16' ⟨u1, rfl, hu1, rfl⟩
      have hcl := cutL_len l
      obtain ⟨L, hL⟩ : ∃ L, cutL l = L := ⟨_, rfl⟩
      rw [hL] at hu1 HGET hcl
      have HL := Lib.hid hL
      have HU1 := Lib.hid (hu1.row (Nat.le_trans HBW14.out.size H1416.out.size))
      have hs16 := H1416.out.size
      clear hu1 hL
      go_wp2_with (at_builtin; go_loud (refine wpList_append_bytes rfl _ _ rfl w14.heap.size _ M rfl HO16.out _ L rfl HU1.out (by omega) hs16 ?_; intro v17 w17 ho17 hb17; have HO17 := Lib.hid ho17; have H1417 := Lib.hid (H1416.out.trans hb17); clear ho17 hb17))
      refine (cget_any _ (M ++ L) w17 HO17.out.brow (by simp; omega)).mono ?_
      rw [HGET.out]
      rintro e w18 ⟨ug, vg, rfl, hug, hvg, hb18⟩
      dsimp only at hug hvg ⊢
      obtain ⟨pg, cg, rfl, _⟩ := hug.shape
      obtain ⟨w19, hw19⟩ : ∃ w19, w18.alloc (.cells #[.int .i64 z0, .slice pg fs0.length cg] 24) = w19 := ⟨_, rfl⟩
      have ha18 : Below w18.heap.size w18 w19 := by rw [← hw19]; exact (Below.refl _ _).alloc (Nat.le_refl _) _
      have x19 : Two w19 w18.heap.size 24 (.int .i64 z0) (.slice pg fs0.length cg) := by rw [← hw19]; exact two_new w18 24 _ _
      have h1419 : Below w14.heap.size w14 w19 := H1417.out.trans ((hb18.trans (ha18.mono hb18.size)).mono H1417.out.size)
      have h1319 := HB14.out.trans (h1419.mono HB14.out.size)
      have HW19 := Lib.hid hw19
      have HX19 := Lib.hid x19
      have HG19 := Lib.hid (RAny.below hug.any ha18)
      have HV19 := Lib.hid (BRow.below hvg.brow ha18)
      have HBB19 := Lib.hid (HBB14.out.trans (h1419.mono HBB14.out.size))
      have HBW19 := Lib.hid (HBW14.out.trans (h1419.mono HBW14.out.size))
      have H1319 := Lib.hid h1319
      clear hug hvg hb18 ha18 x19 h1419 h1319 hw19 HO16 HU1 HO17 H1417 H1416 HO15 HL0 HBL HBB14 HBW14 HO14 HB14 HBB13 HBW13
      go_wp2_with fail
      rw [HW19.out]
      refine RK.begin_ (T := fun _ => True) [(0, true), (1, true), (2, true), (3, true), (4, true), (5, true), (6, true), (7, true), (8, true), (9, true), (10, true), (11, true), (12, false), (13, true), (14, true), (15, true), (16, true), (17, true), (18, false), (19, true), (20, true), (21, true), (22, true), (23, false), (24, true), (25, true)] (by kernel_rfl) (by kernel_rfl) rfl (by kernel_rfl) (fun _ _ d _ _ h => by cases d <;> exact h) ?_
      simp only [RK.ordered, List.map_cons, List.map_nil, List.getElem?_toArray, List.getElem?_cons_succ, List.getElem?_cons_zero]
      obtain ⟨wd, hwd⟩ : ∃ wd, w19.drew = wd := ⟨_, rfl⟩
      have hbd : Below w19.heap.size w19 wd := by rw [← hwd]; exact (Below.refl _ _).drew
      have G := Lib.hid (fun W (hW : Kep (fun _ => True) wd W) => (show W.cell? ⟨w18.heap.size, 0, none⟩ = some (.int .i64 z0) ∧ W.cell? ⟨w18.heap.size, 1, none⟩ = some (.slice pg fs0.length cg) ∧ W.cell? ⟨w.heap.size, 1, none⟩ = some (.slice (some ⟨be, oe, none⟩) es.length cap) ∧ W.cell? ⟨be, oe, none⟩ = some (.int .i64 z0) ∧ W.cell? ⟨be, oe + 1, none⟩ = some (.slice pe fs0.length ce) ∧ (convert 40 9 vg).run Try.prog W = .ok (.string ⟨L.toArray⟩) W from by
        have hb := hbd.trans ((hW.below (Nat.le_refl _) (fun _ _ => trivial)).mono hbd.size)
        have x := HX19.out.below hb HX19.out.lt
        have hbb := HBB19.out.trans (hb.mono HBB19.out.size)
        have h13 := H1319.out.trans (hb.mono H1319.out.size)
        exact ⟨x.c0, x.c1, (btbox_in hbb).2.1, (HBE.out W h13).1, (HBE.out W h13).2, BIn.conv (BRow.below HV19.out hb)⟩))
      have HG := Lib.hid (RAny.below HG19.out hbd)
      have HH := Lib.hid (HRE.out wd (H1319.out.trans (hbd.mono H1319.out.size)))
      have HBWd := Lib.hid (HBW19.out.trans (hbd.mono HBW19.out.size))
      rw [hwd]
      clear hwd hbd HX19 HG19 HV19 HBB19 HBW19 H1319 HRE HBE
      repeat (refine RK.take (by rfl) (by intro W hW; obtain ⟨f1, f2, f3, f4, f5, f6⟩ := G.out W hW; go_simp; with_reducible rfl) ?_; simp only [Act.put, List.setIfInBounds_toArray, List.set_cons_zero, List.set_cons_succ])
      refine RK.alone (by rfl) (fun K hK => ?_)
      go_simp
      refine (rsame_any z0 z0 _ _ fs0 fs0 wd HG.out HH.out).mono ?_
      rintro e w20 ⟨rfl, hb20⟩
      rw [decide_eq_true (rfl : (z0, fs0) = (z0, fs0))]
      go_simp
      refine hK.out _ _ (kep_below _ hb20) ?_
      clear hK K
      have HBW20 := Lib.hid (HBWd.out.trans (hb20.mono HBWd.out.size))
      have G2 := Lib.hid (fun W (hW : Kep (fun _ => True) w20 W) => (G.out W ((kep_below _ hb20).trans hW)).2.2.2.2.2)
      clear hb20 G HG HH HBWd
      repeat (refine RK.take (by rfl) (by intro W hW; have f6 := G2.out W hW; go_simp; with_reducible rfl) ?_; simp only [Act.put, List.setIfInBounds_toArray, List.set_cons_zero, List.set_cons_succ])
      refine RK.alone (by rfl) (fun K hK => ?_)
      go_simp
      refine (lcut_any w.heap.size b l w20 (BIn.below HB.out HBW20.out)).mono ?_
      rintro e w20' ⟨u2, rfl, hu2, rfl⟩
      rw [HL.out] at hu2
      go_simp
      refine hK.out _ _ (Kep.refl _ _) ?_
      clear hK K
      have G3 := Lib.hid (fun W (hW : Kep (fun _ => True) w20' W) => BIn.conv (hu2.below ((hW.below (Nat.le_refl _) (fun _ _ => trivial)).mono HBW20.out.size)))
      clear hu2 G2
      repeat (refine RK.take (by rfl) (by intro W hW; have f6 := G3.out W hW; go_simp; with_reducible rfl) ?_; simp only [Act.put, List.setIfInBounds_toArray, List.set_cons_zero, List.set_cons_succ])
      refine RK.alone (by rfl) (fun K hK => ?_)
      go_simp
      refine (awake_any _).mono ?_
      rintro e w21 ⟨rfl, hb21⟩
      go_simp
      refine hK.out _ _ (kep_below _ hb21) ?_
      clear hK K G3
      have HEND := Lib.hid (HBW20.out.trans (hb21.mono HBW20.out.size))
      clear hb21
      repeat (refine RK.take (by rfl) (by intro W hW; go_simp; with_reducible rfl) ?_; simp only [Act.put, List.setIfInBounds_toArray, List.set_cons_zero, List.set_cons_succ])
      refine RK.done ?_
      go_wp2_with fail
      go_ret
      exact ⟨rfl, HEND.out⟩
    · have t1 : (ec != 0) = true := by rw [bne_iff_ne]; exact h0
      have hXe : X = [] := by rw [← HX.out]; unfold encR; rw [if_neg (by rw [hec]; exact h0)]
      subst hXe
      clear HX hec
      go_wp2_with fail
      refine (awake_any _).mono ?_
      rintro e w3 ⟨rfl, hb3⟩
      have HEND := Lib.hid (HBW2.out.trans (hb3.mono HBW2.out.size))
      clear hb3 d0 d1
      go_wp2_with fail
      go_ret
      exact ⟨rfl, HEND.out⟩

set_option maxRecDepth 100000 in
theorem back_call (cs0 : Array Value) (e0 : Bat) (b : Value) (l : List UInt8) (n : Nat) (W : World) (h0 : batC.on (fun _ => True) W cs0.toList e0) (hg : FitBat e0) (hb : BRow W b l) (hn : n < 65536) :
    Calls Try.prog 7 #[.agg cs0, b, .int .u16 n] W fun e W' => e = .returned (.bool true) ∧ Below W.heap.size W W' := by
  obtain ⟨v, hv, hr⟩ := bat_on.1 h0
  obtain rfl : cs0 = #[.int .i64 e0.1, v] := by apply Array.toList_inj.1; rw [hv]
  exact back_walk e0.1 v e0.2 b l n W hb hr.any (fun e he => ⟨(hg.2.1 e he).1.1, (hg.2.1 e he).1.2⟩) hn
end Go.Proofs.Ytgacfihidpijeaa.EV
