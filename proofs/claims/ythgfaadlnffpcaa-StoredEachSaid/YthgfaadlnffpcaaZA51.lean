/-
  The law StoredFinds: the doc at any place, of any number, the docs at any places, of any bytes. No condition but the code's contracts; numbers that an int holds.
-/
import Derived.Test.YthgfaadlnffpcaaZA38
import Derived.Test.YthgfaadlnffpcaaZA19
set_option linter.unusedVariables false
namespace Go.Proofs.Ythgfaadlnffpcaa.ST
open Go Go.RowKit Go.Proofs.Ythgfaadlnffpcaa.MM Go.Proofs.Ythgfaadlnffpcaa.EM Go.Proofs.Ythgfaadlnffpcaa.SM
open Go.Proofs.Ythgfaadlnffpcaa.EV (docC evC fldC doc_at doc_on docE BoolLeft IntLeft samedocs_any)

/-- An int. -/
def IntB (z : Int) : Prop := -9223372036854775808 ≤ z ∧ z ≤ 9223372036854775807
theorem lsame_refl (s z : Int) (u v : Value) (xs : List Fld) (w : World) (hu : RAny fldC w u xs) (hv : RAny fldC w v xs) :
    Calls Try.prog 23 #[.agg #[.int .i64 s, .int .i64 z, u], .agg #[.int .i64 s, .int .i64 z, v]] w (BoolLeft true w) := by
  have := lsame_any s s z z u v xs xs w hu hv
  rw [decide_eq_true rfl] at this
  exact this

set_option maxRecDepth 100000 in
set_option maxHeartbeats 4000000 in
theorem finds_call (O : Owes) (v : Value) (bs : List UInt8) (i seq : Int) (pv : Value) (zs : List Int) (w : World) (hv : BRow w v bs) (hz : IRow w pv zs) (hi : IntB i) (hs : IntB seq) (hzb : ∀ z ∈ zs, IntB z) :
    Calls Try.prog 6 #[v, .int .i64 i, .int .i64 seq, pv] w (Held w) := by
  have HO := Lib.hid O
  have HAW := Lib.hid (fun W => awake_any HO.out W)
  have HC := Lib.hid (lcut_any w.heap.size v bs w hv)
  obtain ⟨p0, c0, rfl, _⟩ := BIn.shape hv
  obtain ⟨pp, pc, rfl, hlp, hcp⟩ := hz.shape
  unfold maxLen at hcp
  have HZ0 := Lib.hid hz
  have HZB := Lib.hid hzb
  obtain ⟨NZ, hNZ⟩ : ∃ n, zs.length = n := ⟨_, rfl⟩
  have HNZ := Lib.hid hNZ
  rw [hNZ] at HZ0 hlp ⊢
  clear hv hz hzb hNZ
  go_enter Try.func6, Try.ntmps6
  go_wp2_with fail
  refine HC.out.mono ?_
  rintro e w1 ⟨v2, rfl, hv2, rfl⟩
  have HV := Lib.hid (show BRow w v2 (bs.take 900) from hv2)
  have HB9 : Hid ((bs.take 900).length ≤ 900) := Lib.hid (by rw [List.length_take]; omega)
  generalize bs.take 900 = B2 at HV HB9
  clear hv2 HC
  rcases Classical.em (20 < NZ) with h20 | h20
  case' inl =>
    have q1 : decide ((NZ : Int) > 20) = true := by rw [decide_eq_true_eq]; omega
    have q2 : decide (20 < NZ) = true := decide_eq_true h20
    have j1 : (20 : Int) ≤ (pc : Int) := by omega
    have j2 : 20 ≤ pc := by omega
    obtain ⟨Z, hZ⟩ : ∃ Z, zs.take 20 = Z := ⟨_, rfl⟩
    have HZ := Lib.hid (IRow.take HZ0.out 20 (by omega))
    have HZL : Hid (Z.length ≤ 1000000) := Lib.hid (by rw [← hZ, List.length_take]; omega)
    have HZI : Hid (∀ z ∈ Z, IntB z) := Lib.hid (fun z hz => HZB.out z (by rw [← hZ] at hz; exact List.mem_of_mem_take hz))
    rw [hZ] at HZ
    clear hZ h20 HZ0 HZB HNZ hlp hcp
    go_wp2_with fail
  case' inr =>
    have q1 : decide ((NZ : Int) > 20) = false := by rw [decide_eq_false_iff_not]; omega
    have q2 : decide (20 < NZ) = false := decide_eq_false h20
    obtain ⟨Z, hZ⟩ : ∃ Z, zs = Z := ⟨_, rfl⟩
    subst hZ
    have HZ := HZ0
    have HZL : Hid (zs.length ≤ 1000000) := Lib.hid (by have := HNZ.out; omega)
    have HZI : Hid (∀ z ∈ zs, IntB z) := HZB
    obtain ⟨Z, hZ⟩ : ∃ Z, zs = Z := ⟨_, rfl⟩
    rw [hZ] at HZ HZL HZI
    clear hZ h20 HZ0 HZB HNZ hlp hcp
    go_wp2_with fail
  all_goals
    obtain ⟨o, ho⟩ : ∃ o, decS B2 = o := ⟨_, rfl⟩
    have hR1 := rdec_a v2 B2 w HV.out
    have hA1 := fun W h => HO.out.at_ v2 B2 i W h (by have := HB9.out; omega) hi.1 hi.2
    have hF1 := fun W h => HO.out.find v2 B2 seq W h (by have := HB9.out; omega) hs.1 hs.2
    have hS1 := fun W h k => HO.out.some_ v2 B2 _ Z W h (by have := HB9.out; omega) (IRow.below HZ.out k) HZL.out HZI.out
    rw [ho] at hR1 hA1 hF1 hS1
    obtain ⟨⟨⟨s1, ⟨z1, f1⟩⟩, x1⟩, ha⟩ : ∃ a, atB o i = a := ⟨_, rfl⟩
    obtain ⟨O2, hf⟩ : ∃ a, findB o seq = a := ⟨_, rfl⟩
    obtain ⟨⟨s2, ⟨z2, f2⟩⟩, hf2⟩ : ∃ a, O2.getD noDoc = a := ⟨_, rfl⟩
    obtain ⟨ok2, hok⟩ : ∃ a, O2.isSome = a := ⟨_, rfl⟩
    obtain ⟨⟨K, xK⟩, hk⟩ : ∃ a, someB o Z = a := ⟨_, rfl⟩
    rw [ha] at hA1
    rw [hf] at hF1
    rw [hk] at hS1
    unfold FoundA at hF1
    rw [hf2, hok] at hF1
    have HR1 := Lib.hid hR1
    have HA1 := Lib.hid hA1
    have HF1 := Lib.hid hF1
    have HS1 := Lib.hid hS1
    have HHA := Lib.hid ha
    have HHF := Lib.hid hf
    have HHF2 := Lib.hid hf2
    have HHK := Lib.hid hk
    have HOK := Lib.hid hok
    clear hR1 hA1 hF1 hS1 ha hf hf2 hk hok ho
    refine HR1.out.mono ?_
    rintro e w2 ⟨u, rfl, hu, hb2⟩
    have HU2 := Lib.hid hu
    have HV2 := Lib.hid (BRow.below HV.out hb2)
    have HB2 := Lib.hid hb2
    obtain ⟨pu, cu, hpu, _⟩ := hu.shape
    subst hpu
    obtain ⟨L, hL⟩ : ∃ L, o.getD [] = L := ⟨_, rfl⟩
    obtain ⟨er, her⟩ : ∃ x, errD o = x := ⟨_, rfl⟩
    rw [hL] at HU2 ⊢
    rw [her]
    have HL := Lib.hid hL
    have HER := Lib.hid her
    clear hu hb2 HR1 HV hL her
    go_wp2_with fail
    refine (HA1.out w2 HV2.out).mono ?_
    rintro e w3 ⟨ux, rfl, hux, hb3⟩
    dsimp only at hux ⊢
    obtain ⟨px, cx, rfl, _⟩ := hux.shape
    obtain ⟨g3, hg3⟩ : ∃ g, w3.heap.size = g := ⟨_, rfl⟩
    obtain ⟨w3', hw3⟩ : ∃ W, w3.alloc (.cells #[.int .i64 s1, .int .i64 z1, .slice px f1.length cx] 45) = W := ⟨_, rfl⟩
    have ha3 : Below w3.heap.size w3 w3' := by rw [← hw3]; exact (Below.refl _ _).alloc (Nat.le_refl _) _
    have X3 : Hid (Three w3' g3 45 (.int .i64 s1) (.int .i64 z1) (.slice px f1.length cx)) := Lib.hid (by rw [← hw3, ← hg3]; exact three_new w3 45 _ _ _)
    have h23 := grow hb3 ha3
    have HX3 := Lib.hid (RAny.below hux ha3)
    have HU3 := Lib.hid (RAny.below HU2.out h23)
    have HV3 := Lib.hid (BRow.below HV2.out h23)
    have HB3 := Lib.hid (HB2.out.trans (h23.mono HB2.out.size))
    have HW3 := Lib.hid hw3
    have HG3 := Lib.hid hg3
    clear hux hb3 ha3 h23 HA1 HU2 HV2 HB2 hw3 hg3
    go_wp2_with fail
    rw [HW3.out, HG3.out]
    refine (HF1.out w3' HV3.out).mono ?_
    rintro e w4 ⟨uy, rfl, huy, hb4⟩
    dsimp only at huy ⊢
    obtain ⟨py, cy, rfl, _⟩ := huy.shape
    obtain ⟨g4, hg4⟩ : ∃ g, w4.heap.size = g := ⟨_, rfl⟩
    obtain ⟨w4', hw4⟩ : ∃ W, w4.alloc (.cells #[.int .i64 s2, .int .i64 z2, .slice py f2.length cy] 45) = W := ⟨_, rfl⟩
    have ha4 : Below w4.heap.size w4 w4' := by rw [← hw4]; exact (Below.refl _ _).alloc (Nat.le_refl _) _
    have Y4 : Hid (Three w4' g4 45 (.int .i64 s2) (.int .i64 z2) (.slice py f2.length cy)) := Lib.hid (by rw [← hw4, ← hg4]; exact three_new w4 45 _ _ _)
    have h34 := grow hb4 ha4
    have X4 := Lib.hid (X3.out.below h34 X3.out.lt)
    have HY4 := Lib.hid (RAny.below huy ha4)
    have HX4 := Lib.hid (RAny.below HX3.out h34)
    have HU4 := Lib.hid (RAny.below HU3.out h34)
    have HV4 := Lib.hid (BRow.below HV3.out h34)
    have HB4 := Lib.hid (HB3.out.trans (h34.mono HB3.out.size))
    have HW4 := Lib.hid hw4
    have HG4 := Lib.hid hg4
    clear huy hb4 ha4 h34 HF1 HU3 HV3 HB3 HX3 X3 hw4 HW3 hg4
    go_wp2_with fail
    rw [HW4.out, HG4.out]
    refine (HS1.out w4' HV4.out HB4.out).mono ?_
    rintro e w5 ⟨uk, rfl, huk, hb5⟩
    dsimp only at huk ⊢
    obtain ⟨pk, ck, rfl, _⟩ := huk.shape
    have X5 := Lib.hid (X4.out.below hb5 X4.out.lt)
    have Y5 := Lib.hid (Y4.out.below hb5 Y4.out.lt)
    have HK5 := Lib.hid huk
    have HY5 := Lib.hid (RAny.below HY4.out hb5)
    have HX5 := Lib.hid (RAny.below HX4.out hb5)
    have HU5 := Lib.hid (RAny.below HU4.out hb5)
    have HB5 := Lib.hid (HB4.out.trans (hb5.mono HB4.out.size))
    have HZ5 := Lib.hid (IRow.below HZ.out HB5.out)
    clear huk hb5 HS1 HU4 HV4 HB4 HX4 HY4 X4 Y4 HW4 HZ
    cases o with
    | none =>
      have e1 := HER.out
      have e1 : (120 : Int) = er := e1
      subst e1
      have e2 : ((noDoc, (120 : Int))) = ((s1, (z1, f1)), x1) := HHA.out
      have e3 : (none : Option Doc) = O2 := HHF.out
      have e4 : (([] : List Doc), (120 : Int)) = (K, xK) := HHK.out
      unfold noDoc at e2
      simp only [Prod.mk.injEq] at e2 e4
      obtain ⟨⟨rfl, rfl, rfl⟩, rfl⟩ := e2
      subst e3
      obtain ⟨rfl, rfl⟩ := e4
      have e5 : noDoc = (s2, (z2, f2)) := HHF2.out
      have e6 : false = ok2 := HOK.out
      subst e6
      unfold noDoc at e5
      simp only [Prod.mk.injEq] at e5
      obtain ⟨rfl, rfl, rfl⟩ := e5
      obtain ⟨a0, a1, a2⟩ := X5.out.cells
      have hsm := fun W h k => lsame_refl 0 0 (.slice px ([] : List Fld).length cx) (.slice none 0 0) [] W h k
      have HSM1 := Lib.hid (hsm w5 HX5.out (ROn.nil_ _ _))
      have HSM2 := Lib.hid (fun W h => lsame_refl 0 0 (.slice py ([] : List Fld).length cy) (.slice none 0 0) [] W h (ROn.nil_ _ _))
      clear hsm HHA HHF HHF2 HHK HER HOK HL HU5 HZ5 HK5
      go_wp2_with fail
      refine HSM1.out.mono ?_
      rintro e w6 ⟨rfl, hb6⟩
      have HB6 := Lib.hid (HB5.out.trans (hb6.mono HB5.out.size))
      obtain ⟨b0, b1, b2⟩ := (Y5.out.below hb6 Y5.out.lt).cells
      have HSM3 := Lib.hid (HSM2.out w6 (RAny.below HY5.out hb6))
      clear hb6 HSM1 HSM2 HB5 HX5 HY5 X5 Y5
      go_wp2_with fail
      refine HSM3.out.mono ?_
      rintro e w7 ⟨rfl, hb7⟩
      have HB7 := Lib.hid (HB6.out.trans (hb7.mono HB6.out.size))
      clear hb7 HSM3 HB6
      go_wp2_with fail
      refine (HAW.out w7).mono ?_
      rintro e w8 ⟨rfl, hb8⟩
      have HB8 := Lib.hid (HB7.out.trans (hb8.mono HB7.out.size))
      clear hb8 HAW HB7
      go_wp2_with fail
      go_ret
      exact ⟨rfl, HB8.out⟩
    | some l =>
      have e1 : (0 : Int) = er := HER.out
      subst e1
      have e0 : l = L := HL.out
      subst e0
      have e2 : atS l i = ((s1, (z1, f1)), x1) := HHA.out
      have e3 : findS l seq = O2 := HHF.out
      have e4 : someS l Z [] = (K, xK) := HHK.out
      have hr1 := rat_any w5.heap.size _ l i w5 HU5.out.bel (Nat.le_refl _)
      rw [e2] at hr1
      have HR1 := Lib.hid hr1
      have hr2 := fun (W : World) (h : RAny docC W (.slice pu l.length cu) l) => rfind_any W.heap.size (.slice pu l.length cu) l seq W h.bel (Nat.le_refl _)
      rw [e3, HHF2.out, HOK.out] at hr2
      have HR2 := Lib.hid hr2
      have hr3 := fun (W : World) (vz : Value) (h : RAny docC W (.slice pu l.length cu) l) (k : IRow W vz Z) => rsome_any W.heap.size (.slice pu l.length cu) l vz Z W h.bel (Nat.le_refl _) k (by have := HZL.out; omega)
      rw [e4] at hr3
      have HR3 := Lib.hid hr3
      clear hr1 hr2 hr3 e2 e3 e4 HHA HHF HHF2 HHK HER HOK HL
      go_wp2_with fail
      refine HR1.out.mono ?_
      rintro e w6 ⟨ua, rfl, hua, hb6⟩
      dsimp only at hua ⊢
      obtain ⟨pa, ca, rfl, _⟩ := hua.shape
      obtain ⟨g6, hg6⟩ : ∃ g, w6.heap.size = g := ⟨_, rfl⟩
      obtain ⟨w6', hw6⟩ : ∃ W, w6.alloc (.cells #[.int .i64 s1, .int .i64 z1, .slice pa f1.length ca] 45) = W := ⟨_, rfl⟩
      have ha6 : Below w6.heap.size w6 w6' := by rw [← hw6]; exact (Below.refl _ _).alloc (Nat.le_refl _) _
      have A6 : Hid (Three w6' g6 45 (.int .i64 s1) (.int .i64 z1) (.slice pa f1.length ca)) := Lib.hid (by rw [← hw6, ← hg6]; exact three_new w6 45 _ _ _)
      have h56 := grow hb6 ha6
      have X6 := Lib.hid (X5.out.below h56 X5.out.lt)
      have Y6 := Lib.hid (Y5.out.below h56 Y5.out.lt)
      have HA6 := Lib.hid (RAny.below hua.any ha6)
      have HK6 := Lib.hid (RAny.below HK5.out h56)
      have HY6 := Lib.hid (RAny.below HY5.out h56)
      have HX6 := Lib.hid (RAny.below HX5.out h56)
      have HU6 := Lib.hid (RAny.below HU5.out h56)
      have HZ6 := Lib.hid (IRow.below HZ5.out h56)
      have HB6 := Lib.hid (HB5.out.trans (h56.mono HB5.out.size))
      have HW6 := Lib.hid hw6
      have HG6 := Lib.hid hg6
      clear hua hb6 ha6 h56 HR1 HU5 HB5 HX5 HY5 X5 Y5 HK5 HZ5 hw6 hg6
      go_wp2_with fail
      rw [HW6.out, HG6.out]
      refine (HR2.out w6' HU6.out).mono ?_
      rintro e w7 ⟨uc, rfl, huc, hb7⟩
      dsimp only at huc ⊢
      obtain ⟨pc7, cc7, rfl, _⟩ := huc.shape
      obtain ⟨g7, hg7⟩ : ∃ g, w7.heap.size = g := ⟨_, rfl⟩
      obtain ⟨w7', hw7⟩ : ∃ W, w7.alloc (.cells #[.int .i64 s2, .int .i64 z2, .slice pc7 f2.length cc7] 45) = W := ⟨_, rfl⟩
      have ha7 : Below w7.heap.size w7 w7' := by rw [← hw7]; exact (Below.refl _ _).alloc (Nat.le_refl _) _
      have C7 : Hid (Three w7' g7 45 (.int .i64 s2) (.int .i64 z2) (.slice pc7 f2.length cc7)) := Lib.hid (by rw [← hw7, ← hg7]; exact three_new w7 45 _ _ _)
      have h67 := grow hb7 ha7
      have X7 := Lib.hid (X6.out.below h67 X6.out.lt)
      have Y7 := Lib.hid (Y6.out.below h67 Y6.out.lt)
      have A7 := Lib.hid (A6.out.below h67 A6.out.lt)
      have HC7 := Lib.hid (RAny.below huc.any ha7)
      have HA7 := Lib.hid (RAny.below HA6.out h67)
      have HK7 := Lib.hid (RAny.below HK6.out h67)
      have HY7 := Lib.hid (RAny.below HY6.out h67)
      have HX7 := Lib.hid (RAny.below HX6.out h67)
      have HU7 := Lib.hid (RAny.below HU6.out h67)
      have HZ7 := Lib.hid (IRow.below HZ6.out h67)
      have HB7 := Lib.hid (HB6.out.trans (h67.mono HB6.out.size))
      have HW7 := Lib.hid hw7
      have HG7 := Lib.hid hg7
      clear huc hb7 ha7 h67 HR2 HU6 HB6 HX6 HY6 X6 Y6 A6 HA6 HK6 HZ6 hw7 HW6 hg7
      go_wp2_with fail
      rw [HW7.out, HG7.out]
      refine (HR3.out w7' _ HU7.out HZ7.out).mono ?_
      rintro e w8 ⟨um, rfl, hum, hb8⟩
      have hum := hum.any
      dsimp only at hum ⊢
      obtain ⟨pm, cm, rfl, _⟩ := hum.shape
      have X8 := X7.out.below hb8 X7.out.lt
      have Y8 := Lib.hid (Y7.out.below hb8 Y7.out.lt)
      have A8 := A7.out.below hb8 A7.out.lt
      have C8 := Lib.hid (C7.out.below hb8 C7.out.lt)
      have HM8 := Lib.hid hum
      have HC8 := Lib.hid (RAny.below HC7.out hb8)
      have HK8 := Lib.hid (RAny.below HK7.out hb8)
      have HY8 := Lib.hid (RAny.below HY7.out hb8)
      have HSM1 := Lib.hid (lsame_refl s1 z1 (.slice px f1.length cx) (.slice pa f1.length ca) f1 w8 (RAny.below HX7.out hb8) (RAny.below HA7.out hb8))
      have HB8 := Lib.hid (HB7.out.trans (hb8.mono HB7.out.size))
      obtain ⟨a0, a1, a2⟩ := X8.cells
      obtain ⟨b0, b1, b2⟩ := A8.cells
      have q3 : (x1 == x1) = true := by simp
      have q4 : (ok2 == ok2) = true := by simp
      have q5 : (xK == xK) = true := by simp
      clear hum hb8 HR3 HU7 HB7 HX7 HY7 X7 Y7 A7 HA7 HK7 HZ7 C7 HC7 HW7 X8 A8
      go_wp2_with fail
      refine HSM1.out.mono ?_
      rintro e w9 ⟨rfl, hb9⟩
      obtain ⟨d0, d1, d2⟩ := (Y8.out.below hb9 Y8.out.lt).cells
      obtain ⟨e0, e1, e2⟩ := (C8.out.below hb9 C8.out.lt).cells
      have HSM2 := Lib.hid (lsame_refl s2 z2 (.slice py f2.length cy) (.slice pc7 f2.length cc7) f2 w9 (RAny.below HY8.out hb9) (RAny.below HC8.out hb9))
      have HM9 := Lib.hid (RAny.below HM8.out hb9)
      have HK9 := Lib.hid (RAny.below HK8.out hb9)
      have HB9' := Lib.hid (HB8.out.trans (hb9.mono HB8.out.size))
      clear hb9 HSM1 HB8 HM8 HK8 HY8 HC8 Y8 C8
      go_wp2_with fail
      refine HSM2.out.mono ?_
      rintro e w10 ⟨rfl, hb10⟩
      have hsd := samedocs_any _ _ K K w10 (RAny.below HK9.out hb10) (RAny.below HM9.out hb10)
      rw [decide_eq_true rfl] at hsd
      have HSD := Lib.hid hsd
      have HB10 := Lib.hid (HB9'.out.trans (hb10.mono HB9'.out.size))
      clear hb10 hsd HSM2 HB9' HM9 HK9
      go_wp2_with fail
      refine HSD.out.mono ?_
      rintro e w11 ⟨rfl, hb11⟩
      have HB11 := Lib.hid (HB10.out.trans (hb11.mono HB10.out.size))
      clear hb11 HSD HB10
      go_wp2_with fail
      refine (HAW.out w11).mono ?_
      rintro e w12 ⟨rfl, hb12⟩
      have HB12 := Lib.hid (HB11.out.trans (hb12.mono HB11.out.size))
      clear hb12 HAW HB11
      go_wp2_with fail
      go_ret
      exact ⟨rfl, HB12.out⟩
end Go.Proofs.Ythgfaadlnffpcaa.ST
