/-
  A number up to a bound, an entry, out of any bytes: the reference's. Condition: the bytes are fewer than 2^62.
-/
import Derived.Test.YtklngjnjnkocmaaZA24
import Derived.Test.YtklngjnjnkocmaaZA28
import Derived.Laws.Concat
set_option linter.unusedVariables false
namespace Go.Proofs.Ytklngjnjnkocmaa.DT
open Go Go.RowKit Go.Proofs.Ytklngjnjnkocmaa.MM Go.Proofs.Ytklngjnjnkocmaa.DM Go.Proofs.Ytklngjnjnkocmaa.VM Go.Proofs.Ytklngjnjnkocmaa.VP

/-- A number that is got, and what stands behind; or none. -/
def GotNum (B : Nat) (o : Option (Nat × List UInt8)) (w : World) (e : Ending) (w' : World) : Prop :=
  ∃ v', e = .returned (.tuple #[.int .i64 ((o.map (·.1)).getD 0 : Nat), v', .bool o.isSome]) ∧ BIn B w' v' ((o.map (·.2)).getD []) ∧ Below w.heap.size w w'

set_option maxRecDepth 100000 in
set_option maxHeartbeats 1000000 in
theorem rgetn_in (B : Nat) (v : Value) (l : List UInt8) (most : Nat) (w : World) (hr : BIn B w v l) (hB : B ≤ w.heap.size) (hm : most ≤ 4611686018427387904) : Calls Try.prog 36 #[v, .int .i64 (most : Int)] w (GotNum B (getN l most) w) := by
  have k1 := VG.rget_in B v l w hr hB
  have hb := (getL_bounds l).1
  have hrl : (getL l).2.2 = 0 → VG.restL l = l.drop (getL l).2.1 := fun h => by unfold VG.restL; exact if_pos h
  have hu : IntKind.u64.wrap (most : Int) = (most : Int) := by rw [IntKind.wrap_u64]; omega
  unfold getN
  generalize (getL l).1 = n at *
  generalize (getL l).2.2 = er at *
  generalize l.drop (getL l).2.1 = d at *
  generalize VG.restL l = R at *
  have K1 := Lib.hid k1
  clear k1 hr
  by_cases h0 : er = 0
  · subst h0
    have he := hrl rfl
    subst he
    by_cases h1 : most < n
    · have t1 : decide ((n : Int) > (most : Int)) = true := by rw [decide_eq_true_eq]; omega
      have t2 : decide (most < n) = true := decide_eq_true h1
      rw [if_pos (.inr h1)]
      clear h1
      go_enter Try.func36, Try.ntmps36
      go_wp2_with fail
      refine K1.out.mono ?_
      rintro e w1 ⟨v1, rfl, hrow, hb1⟩
      have HB := Lib.hid hb1
      clear hrow hb1 K1
      go_wp2_with fail
      go_ret3
      exact ⟨_, rfl, BIn.nil_ _ _, HB.out⟩
    · have t1 : decide ((n : Int) > (most : Int)) = false := by rw [decide_eq_false_iff_not]; omega
      have t2 : decide (most < n) = false := decide_eq_false h1
      have t3 : IntKind.i64.wrap (n : Int) = (n : Int) := by rw [IntKind.wrap_i64]; omega
      rw [if_neg (fun h => h.elim (fun h => h rfl) h1)]
      clear h1
      go_enter Try.func36, Try.ntmps36
      go_wp2_with fail
      refine K1.out.mono ?_
      rintro e w1 ⟨v1, rfl, hrow, hb1⟩
      have HB := Lib.hid hb1
      have HR := Lib.hid hrow
      clear hrow hb1 K1
      go_wp2_with fail
      go_ret3
      exact ⟨_, rfl, HR.out, HB.out⟩
  · have t1 : (er != 0) = true := by rw [bne_iff_ne]; exact h0
    rw [if_pos (.inl h0)]
    clear h0
    go_enter Try.func36, Try.ntmps36
    go_wp2_with fail
    refine K1.out.mono ?_
    rintro e w1 ⟨v1, rfl, hrow, hb1⟩
    have HB := Lib.hid hb1
    clear hrow hb1 K1
    go_wp2_with fail
    go_ret3
    exact ⟨_, rfl, BIn.nil_ _ _, HB.out⟩

theorem text_join (a b : List UInt8) : (⟨a.toArray⟩ : ByteArray) ++ ⟨b.toArray⟩ = ⟨(a ++ b).toArray⟩ := by
  apply ByteArray.ext
  rw [ByteArray.data_append]
  simp
theorem text_head (l : List UInt8) (k : Nat) : (⟨l.toArray⟩ : ByteArray).extract 0 k = ⟨(l.take k).toArray⟩ := by rw [text_part]; rfl
/-- An entry that is got, and what stands behind; or none. -/
def GotEnt (B N : Nat) (o : Option (Ent × List UInt8)) (w : World) (e : Ending) (w' : World) : Prop :=
  ∃ (X : Ent) (v' : Value) (r : List UInt8), e = .returned (.tuple #[entV X, v', .bool o.isSome]) ∧ (∀ p, o = some p → X = p.1 ∧ r = p.2) ∧ X.1.length ≤ N ∧ BIn B w' v' r ∧ Below w.heap.size w w'
theorem getT_most {l : List UInt8} {m : Nat} (h : (getT l m).2.2 = 0) : (getT l m).1.length ≤ m := by
  unfold getT at h ⊢
  split at h
  · simp_all
  · rename_i h1
    rw [if_neg h1]
    split at h
    · simp_all
    · rename_i h2
      rw [if_neg h2]
      split at h
      · simp_all
      · rename_i h3
        rw [if_neg h3]
        simp only [List.length_take]
        omega
theorem getN_most {l r : List UInt8} {m n : Nat} (h : getN l m = some (n, r)) : n ≤ m := by
  unfold getN at h
  split at h
  · cases h
  · rename_i h1
    simp only [Option.some.injEq, Prod.mk.injEq] at h
    omega

set_option maxRecDepth 100000 in
set_option maxHeartbeats 4000000 in
theorem rentry_in (B : Nat) (v : Value) (l A : List UInt8) (w : World) (hr : BIn B w v l) (hB : B ≤ w.heap.size) (hA : A.length ≤ 1000000000000) : Calls Try.prog 37 #[v, .string ⟨A.toArray⟩] w (GotEnt B (A.length + 65) (rdX A l) w) := by
  obtain ⟨R, hR⟩ : ∃ R, w.heap.size = R := ⟨_, rfl⟩
  obtain ⟨wa, hwa⟩ : ∃ wa, w.alloc (.cells #[.string ⟨#[]⟩, .int .i64 0, .int .i64 0, .int .i64 0] 42) = wa := ⟨_, rfl⟩
  obtain ⟨wb, hwb⟩ : ∃ wb, wa.alloc (.cells #[.string ⟨#[]⟩, .int .i64 0, .int .i64 0, .int .i64 0] 42) = wb := ⟨_, rfl⟩
  have hba : Below w.heap.size w wa := by rw [← hwa]; exact (Below.refl _ _).alloc (Nat.le_refl _) _
  have hsa : wa.heap.size = R + 1 := by rw [← hwa, ← hR]; simp
  have hbb' : Below wa.heap.size wa wb := by rw [← hwb]; exact (Below.refl _ _).alloc (Nat.le_refl _) _
  have hsb : wb.heap.size = R + 2 := by rw [← hwb]; simp [hsa]
  have f0 : Four wa R 42 (.string ⟨#[]⟩) (.int .i64 0) (.int .i64 0) (.int .i64 0) := by rw [← hwa, ← hR]; exact four_new w 42 _ _ _ _
  have FR0 := Lib.hid (f0.below hbb' (by omega))
  have FQ0 : Hid (Four wb (R + 1) 42 (.string ⟨#[]⟩) (.int .i64 0) (.int .i64 0) (.int .i64 0)) := Lib.hid (by rw [← hwb, ← hsa]; exact four_new wa 42 _ _ _ _)
  have HB0 : Hid (Below w.heap.size w wb) := Lib.hid (hba.trans (hbb'.mono (by omega)))
  have hv0 : BIn B wb v l := hr.below (HB0.out.mono hB)
  have HG0 := Lib.hid (rgetn_in B v l A.length wb hv0 (by omega) (by omega))
  have HNUM := Lib.hid (fun v l m W (h : BIn B W v l) (hb : B ≤ W.heap.size) (hm : m ≤ 4611686018427387904) => rgetn_in B v l m W h hb hm)
  have HTXT := Lib.hid (fun v l W (h : BIn B W v l) (hb : B ≤ W.heap.size) => VG.rgettext_in B v l 65 W (by omega) (by omega) h hb)
  have hza := str_sz A
  have HWA := Lib.hid hwa
  have HWB := Lib.hid hwb
  have HBR : Hid (B ≤ R) := Lib.hid (by omega)
  have HSB := Lib.hid hsb
  clear hwa hwb hba hsa hbb' hsb f0 hv0 hr hB
  obtain ⟨RES, hE⟩ : ∃ r, rdX A l = r := ⟨_, rfl⟩
  rw [hE]
  unfold rdX at hE
  obtain ⟨o0, ho0⟩ : ∃ o, getN l A.length = o := ⟨_, rfl⟩
  rw [ho0] at HG0 hE
  have HE0 := Lib.hid hE
  clear hE
  go_enter Try.func37, Try.ntmps37
  go_wp2_with fail
  rw [HWA.out, HWB.out]
  refine HG0.out.mono ?_
  rintro e w1 ⟨v1, rfl, hv1, hb1⟩
  have hs1 : R + 2 ≤ w1.heap.size := by have := hb1.size; have := HSB.out; omega
  have FR1 := Lib.hid (FR0.out.below hb1 (by have := HSB.out; omega))
  have FQ1 := Lib.hid (FQ0.out.below hb1 (by have := HSB.out; omega))
  have HB1 := Lib.hid (HB0.out.trans (hb1.mono HB0.out.size))
  have HV1 := Lib.hid hv1
  clear hb1 hv1 HG0 FR0 FQ0 HB0 HWA HWB
  cases o0 with
  | none =>
    obtain rfl := HE0.out
    obtain ⟨c0, c1, c2, c3⟩ := FQ1.out.cells
    obtain ⟨n1, n2, n3, n4⟩ := FR1.out.cells
    obtain ⟨m1, m2, m3, m4, ⟨k1, k2⟩, ⟨k3, k4⟩, k5, k6⟩ := FR1.out.all (.string ⟨#[]⟩) (.int .i64 0) (.int .i64 0)
    have HX := Lib.hid (FR1.out.set (.string ⟨#[]⟩) (.int .i64 0) (.int .i64 0) (.int .i64 0))
    have HB9 := Lib.hid (HB1.out.trans ((kep_set4 (g := R) (.string ⟨#[]⟩) (.int .i64 0) (.int .i64 0) (.int .i64 0)).below (B := w.heap.size) (by omega) (fun b hb => by omega)))
    clear FR1 FQ1 HB1
    have HTL := Lib.hid (show ([] : List UInt8).length ≤ A.length + 65 by simp)
    go_wp2_with fail
    refine bodyPost_ret (results_four3 (p := 4) (u := 5) (v := 6) rfl Try.underlying42 rfl infoEnt _ _ R _ _ _ _ rfl HX.out) rfl ?_
    exact ⟨nilX, _, [], rfl, fun p hp => (by cases hp), HTL.out, BIn.nil_ _ _, HB9.out⟩
  | some p0 =>
    obtain ⟨k, l1⟩ := p0
    have hk := getN_most ho0
    dsimp only [Option.map_some, Option.getD_some, Option.isSome_some] at *
    have HG1 := Lib.hid (HTXT.out v1 l1 w1 HV1.out (by have := HBR.out; omega))
    have hrt : (getT l1 65).2.2 = 0 → VG.restT l1 65 = l1.drop (getT l1 65).2.1 := fun h => by unfold VG.restT; exact if_pos h
    have hsm : (getT l1 65).2.2 = 0 → (getT l1 65).1.length ≤ 65 := getT_most (m := 65)
    generalize (getT l1 65).1 = s at *
    generalize (getT l1 65).2.2 = er at *
    generalize l1.drop (getT l1 65).2.1 = l2 at *
    generalize VG.restT l1 65 = l2' at *
    have HRT := Lib.hid hrt
    have HE1 : Hid ((if er ≠ 0 then none else match getN l2 67108864 with
      | none => none
      | some (o, l2) => match getN l2 67108864 with
        | none => none
        | some (m, l3) => match getN l3 67108864 with
          | none => none
          | some (n, l4) => some ((A.take k ++ s, ((o : Int), ((m : Int), (n : Int)))), l4)) = RES) := HE0
    clear ho0 hrt HV1 HE0
    go_wp2_with fail
    refine HG1.out.mono ?_
    rintro e w2 ⟨v2, rfl, hv2, hb2⟩
    have hs2 : R + 2 ≤ w2.heap.size := by have := hb2.size; omega
    have FR2 := Lib.hid (FR1.out.below hb2 (by omega))
    have FQ2 := Lib.hid (FQ1.out.below hb2 (by omega))
    have HB2 := Lib.hid (HB1.out.trans (hb2.mono HB1.out.size))
    have HV2 := Lib.hid hv2
    clear hb2 hv2 HG1 FR1 FQ1 HB1 HTXT
    by_cases her : er = 0
    · subst her
      have he2 := HRT.out rfl
      subst he2
      have hE := HE1.out
      rw [if_neg (by simp)] at hE
      have hcat := text_join (A.take k) s
      have hhead := text_head A k
      have hsl := hsm rfl
      have hadd := fun W => run_string_add_sum (P := Try.prog) W ⟨(A.take k).toArray⟩ ⟨s.toArray⟩ (by rw [str_sz, str_sz, List.length_take]; omega)
      have hki : (k : Int) ≤ (A.length : Int) := by omega
      obtain ⟨T, hT⟩ : ∃ T, A.take k ++ s = T := ⟨_, rfl⟩
      have HTL : Hid (T.length ≤ A.length + 65) := Lib.hid (by rw [← hT, List.length_append, List.length_take]; omega)
      rw [hT] at hcat hE
      simp only [hcat] at hadd
      have c0 := FQ2.out.c0
      have d0 := FQ2.out.fr 0
      obtain ⟨w3, hw3⟩ : ∃ w3, w2.setCell ⟨R + 1, 0, none⟩ (.string ⟨T.toArray⟩) = w3 := ⟨_, rfl⟩
      have hk3 : Kep (fun b => b ≠ R + 1) w2 w3 := by rw [← hw3]; exact kep_set (fun h => h rfl) _
      have FQ3 : Hid (Four w3 (R + 1) 42 (.string ⟨T.toArray⟩) (.int .i64 0) (.int .i64 0) (.int .i64 0)) := Lib.hid (by rw [← hw3]; exact FQ2.out.s0 _)
      have FR3 := Lib.hid (FR2.out.keep hk3 (by omega))
      have hs3 : R + 2 ≤ w3.heap.size := by have := hk3.size; omega
      have HB3 := Lib.hid (HB2.out.trans (hk3.below (B := w.heap.size) (by omega) (fun b hb => by omega)))
      have HV3 := Lib.hid (HV2.out.below (hk3.below (B := B) (by have := HBR.out; omega) (fun b hb => by have := HBR.out; omega)))
      have HW3 := Lib.hid hw3
      obtain ⟨o3, ho3⟩ : ∃ o, getN l2' 67108864 = o := ⟨_, rfl⟩
      have hg3 := HNUM.out v2 l2' 67108864 w3 HV3.out (by have := HBR.out; omega) (by omega)
      rw [ho3] at hg3 hE
      have HG3 := Lib.hid hg3
      have HE3 := Lib.hid hE
      clear hE HE1 hw3 hk3 hg3 hT ho3 FR2 FQ2 HB2 HV2 HV3
      go_wp2_with fail
      rw [HW3.out]
      refine HG3.out.mono ?_
      rintro e w4 ⟨v4, rfl, hv4, hb4⟩
      have hs4 : R + 2 ≤ w4.heap.size := by have := hb4.size; omega
      have FR4 := Lib.hid (FR3.out.below hb4 (by omega))
      have FQ4 := Lib.hid (FQ3.out.below hb4 (by omega))
      have HB4 := Lib.hid (HB3.out.trans (hb4.mono HB3.out.size))
      have HV4 := Lib.hid hv4
      clear hb4 hv4 HG3 FR3 FQ3 HB3
      cases o3 with
      | none =>
        obtain rfl := HE3.out
        obtain ⟨c0, c1, c2, c3⟩ := FQ4.out.cells
        obtain ⟨n1, n2, n3, n4⟩ := FR4.out.cells
        obtain ⟨m1, m2, m3, m4, ⟨k1, k2⟩, ⟨k3, k4⟩, k5, k6⟩ := FR4.out.all (.string ⟨T.toArray⟩) (.int .i64 0) (.int .i64 0)
        have HX := Lib.hid (FR4.out.set (.string ⟨T.toArray⟩) (.int .i64 0) (.int .i64 0) (.int .i64 0))
        have HB9 := Lib.hid (HB4.out.trans ((kep_set4 (g := R) (.string ⟨T.toArray⟩) (.int .i64 0) (.int .i64 0) (.int .i64 0)).below (B := w.heap.size) (by omega) (fun b hb => by omega)))
        clear FR4 FQ4 HB4
        go_wp2_with fail
        refine bodyPost_ret (results_four3 (p := 4) (u := 5) (v := 6) rfl Try.underlying42 rfl infoEnt _ _ R _ _ _ _ rfl HX.out) rfl ?_
        exact ⟨(T, (0, (0, 0))), _, [], rfl, fun p hp => (by cases hp), HTL.out, BIn.nil_ _ _, HB9.out⟩
      | some p3 =>
        obtain ⟨o, l3⟩ := p3
        dsimp only [Option.map_some, Option.getD_some, Option.isSome_some] at *
        obtain ⟨o4, ho4⟩ : ∃ o, getN l3 67108864 = o := ⟨_, rfl⟩
        have hg4 := HNUM.out v4 l3 67108864 w4 HV4.out (by have := HBR.out; omega) (by omega)
        have hE : (match getN l3 67108864 with
          | none => none
          | some (m, l3) => match getN l3 67108864 with
            | none => none
            | some (n, l4) => some ((T, ((o : Int), ((m : Int), (n : Int)))), l4)) = RES := HE3.out
        rw [ho4] at hg4 hE
        have HG4 := Lib.hid hg4
        have HE4 := Lib.hid hE
        clear hE HE3 hg4 ho4 HV4
        go_wp2_with fail
        refine HG4.out.mono ?_
        rintro e w5 ⟨v5, rfl, hv5, hb5⟩
        have hs5 : R + 2 ≤ w5.heap.size := by have := hb5.size; omega
        have FR5 := Lib.hid (FR4.out.below hb5 (by omega))
        have FQ5 := Lib.hid (FQ4.out.below hb5 (by omega))
        have HB5 := Lib.hid (HB4.out.trans (hb5.mono HB4.out.size))
        have HV5 := Lib.hid hv5
        clear hb5 hv5 HG4 FR4 FQ4 HB4
        cases o4 with
        | none =>
          obtain rfl := HE4.out
          obtain ⟨c0, c1, c2, c3⟩ := FQ5.out.cells
          obtain ⟨n1, n2, n3, n4⟩ := FR5.out.cells
          obtain ⟨m1, m2, m3, m4, ⟨k1, k2⟩, ⟨k3, k4⟩, k5, k6⟩ := FR5.out.all (.string ⟨T.toArray⟩) (.int .i64 0) (.int .i64 0)
          have HX := Lib.hid (FR5.out.set (.string ⟨T.toArray⟩) (.int .i64 0) (.int .i64 0) (.int .i64 0))
          have HB9 := Lib.hid (HB5.out.trans ((kep_set4 (g := R) (.string ⟨T.toArray⟩) (.int .i64 0) (.int .i64 0) (.int .i64 0)).below (B := w.heap.size) (by omega) (fun b hb => by omega)))
          clear FR5 FQ5 HB5
          go_wp2_with fail
          refine bodyPost_ret (results_four3 (p := 4) (u := 5) (v := 6) rfl Try.underlying42 rfl infoEnt _ _ R _ _ _ _ rfl HX.out) rfl ?_
          exact ⟨(T, (0, (0, 0))), _, [], rfl, fun p hp => (by cases hp), HTL.out, BIn.nil_ _ _, HB9.out⟩
        | some p4 =>
          obtain ⟨m, l4⟩ := p4
          dsimp only [Option.map_some, Option.getD_some, Option.isSome_some] at *
          obtain ⟨o5, ho5⟩ : ∃ o, getN l4 67108864 = o := ⟨_, rfl⟩
          have hg5 := HNUM.out v5 l4 67108864 w5 HV5.out (by have := HBR.out; omega) (by omega)
          have hE : (match getN l4 67108864 with
            | none => none
            | some (n, l4) => some ((T, ((o : Int), ((m : Int), (n : Int)))), l4)) = RES := HE4.out
          rw [ho5] at hg5 hE
          have HG5 := Lib.hid hg5
          have HE5 := Lib.hid hE
          clear hE HE4 hg5 ho5 HV5 HNUM
          go_wp2_with fail
          refine HG5.out.mono ?_
          rintro e w6 ⟨v6, rfl, hv6, hb6⟩
          have hs6 : R + 2 ≤ w6.heap.size := by have := hb6.size; omega
          have FR6 := Lib.hid (FR5.out.below hb6 (by omega))
          have FQ6 := Lib.hid (FQ5.out.below hb6 (by omega))
          have HB6 := Lib.hid (HB5.out.trans (hb6.mono HB5.out.size))
          have HV6 := Lib.hid hv6
          clear hb6 hv6 HG5 FR5 FQ5 HB5
          have hE := HE5.out
          obtain ⟨n, hn⟩ : ∃ n, (o5.map (·.1)).getD 0 = n := ⟨_, rfl⟩
          obtain ⟨rr, hrr⟩ : ∃ rr, (o5.map (·.2)).getD [] = rr := ⟨_, rfl⟩
          obtain ⟨bb, hbb⟩ : ∃ bb, o5.isSome = bb := ⟨_, rfl⟩
          rw [hn, hbb]
          rw [hrr] at HV6
          have hres : RES = if bb then some ((T, ((o : Int), ((m : Int), (n : Int)))), rr) else none := by
            rw [← hE, ← hbb, ← hn, ← hrr]
            cases o5 with
            | none => rfl
            | some p5 => rfl
          have HRES := Lib.hid hres
          clear hres hrr hbb hE HE5
          obtain ⟨c0, c1, c2, c3⟩ := FQ6.out.cells
          have g1 := FQ6.out.fr 1
          have z1 := FQ6.out.s1 (.int .i64 (o : Int))
          have z2 := z1.s2 (.int .i64 (m : Int))
          have z3 := z2.s3 (.int .i64 (n : Int))
          have g2 := z1.fr 2
          have g3 := z2.fr 3
          have g4 := z1.c2
          have g5 := z2.c3
          obtain ⟨e0, e1, e2, e3⟩ := z3.cells
          have hk7 : Kep (fun b => b ≠ R + 1) w6 (((w6.setCell ⟨R + 1, 1, none⟩ (.int .i64 (o : Int))).setCell ⟨R + 1, 2, none⟩ (.int .i64 (m : Int))).setCell ⟨R + 1, 3, none⟩ (.int .i64 (n : Int))) := ((kep_set (fun h => h rfl) _).trans (kep_set (fun h => h rfl) _)).trans (kep_set (fun h => h rfl) _)
          have y := FR6.out.keep hk7 (by omega)
          obtain ⟨n1, n2, n3, n4⟩ := y.cells
          obtain ⟨m1, m2, m3, m4, ⟨k1, k2⟩, ⟨k3, k4⟩, k5, k6⟩ := y.all (.string ⟨T.toArray⟩) (.int .i64 (o : Int)) (.int .i64 (m : Int))
          have HX := Lib.hid (y.set (.string ⟨T.toArray⟩) (.int .i64 (o : Int)) (.int .i64 (m : Int)) (.int .i64 (n : Int)))
          have hk8 := hk7.mono' (T := fun b => b < R) (fun b _ h => by omega)
          have hk9 : Kep (fun b => b < R) w6 _ := hk8.trans ((kep_set4 (g := R) (.string ⟨T.toArray⟩) (.int .i64 (o : Int)) (.int .i64 (m : Int)) (.int .i64 (n : Int))).mono' (fun b _ h => by omega))
          have HB9 := Lib.hid (HB6.out.trans (hk9.below (B := w.heap.size) (by omega) (fun b hb => by omega)))
          have HV9 := Lib.hid (HV6.out.below (hk9.below (B := B) (by have := HBR.out; omega) (fun b hb => by have := HBR.out; omega)))
          clear z1 z2 z3 hk7 hk8 hk9 y hn FR6 FQ6 HB6 HV6
          go_wp2_with fail
          refine bodyPost_ret (results_four3 (p := 4) (u := 5) (v := 6) rfl Try.underlying42 rfl infoEnt _ _ R _ _ _ _ rfl HX.out) rfl ?_
          refine ⟨(T, (o, (m, n))), _, _, ?_, fun p hp => ?_, HTL.out, HV9.out, HB9.out⟩
          · rw [HRES.out]; cases bb <;> rfl
          · rw [HRES.out] at hp
            cases bb with
            | false => cases hp
            | true =>
              simp only [if_true, Option.some.injEq] at hp
              rw [← hp]
              exact ⟨rfl, rfl⟩
    · have t1 : (er != 0) = true := by rw [bne_iff_ne]; exact her
      have hE := HE1.out
      rw [if_pos her] at hE
      subst hE
      clear her HE1
      obtain ⟨c0, c1, c2, c3⟩ := FQ2.out.cells
      obtain ⟨n1, n2, n3, n4⟩ := FR2.out.cells
      obtain ⟨m1, m2, m3, m4, ⟨k1, k2⟩, ⟨k3, k4⟩, k5, k6⟩ := FR2.out.all (.string ⟨#[]⟩) (.int .i64 0) (.int .i64 0)
      have HX := Lib.hid (FR2.out.set (.string ⟨#[]⟩) (.int .i64 0) (.int .i64 0) (.int .i64 0))
      have HB9 := Lib.hid (HB2.out.trans ((kep_set4 (g := R) (.string ⟨#[]⟩) (.int .i64 0) (.int .i64 0) (.int .i64 0)).below (B := w.heap.size) (by omega) (fun b hb => by omega)))
      clear FR2 FQ2 HB2
      have HTL := Lib.hid (show ([] : List UInt8).length ≤ A.length + 65 by simp)
      go_wp2_with fail
      refine bodyPost_ret (results_four3 (p := 4) (u := 5) (v := 6) rfl Try.underlying42 rfl infoEnt _ _ R _ _ _ _ rfl HX.out) rfl ?_
      exact ⟨nilX, _, [], rfl, fun p hp => (by cases hp), HTL.out, BIn.nil_ _ _, HB9.out⟩
end Go.Proofs.Ytklngjnjnkocmaa.DT
