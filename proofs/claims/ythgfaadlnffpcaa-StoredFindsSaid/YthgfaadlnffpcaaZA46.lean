/-
  The doc of a number, in the row of bytes: the code's Find (slices.BinarySearchFunc, by halves). Condition: fewer than 10^10 bytes.
-/
import Derived.Test.YthgfaadlnffpcaaZA2
import Derived.Test.YthgfaadlnffpcaaZA45
import Derived.Lib.VarintBits
import Derived.Laws.BitsAllLaws
set_option linter.unusedVariables false
namespace Go.Proofs.Ythgfaadlnffpcaa.SR
open Go Go.RowKit Go.Proofs.Ythgfaadlnffpcaa.MM Go.Proofs.Ythgfaadlnffpcaa.VM Go.Proofs.Ythgfaadlnffpcaa.SM Go.Proofs.Ythgfaadlnffpcaa.CI
open Go.Proofs.Ythgfaadlnffpcaa.EM (Fld Ev checkE checkE_ok)
open Go.Proofs.Ythgfaadlnffpcaa.EV (fldC docC docE doc_on doc_at IsF NewF newf_keep)
open Go.Proofs.Ythgfaadlnffpcaa.ST (findB FoundA)

set_option maxRecDepth 100000 in
set_option maxHeartbeats 1000000 in
theorem fcmp_any (z t : Int) (p : Option Addr) (n c : Nat) (d : Int) (w : World) : Calls Try.prog 44 #[.agg #[.int .i64 z, .int .i64 t, .slice p n c], .int .i64 d] w fun e w' => e = .returned (.int .i64 (cmpZ z d)) ∧ Below w.heap.size w w' := by
  have HB := Lib.hid (show Below w.heap.size w (w.alloc (.cells #[.int .i64 z, .int .i64 t, .slice p n c] 45)) from (Below.refl _ _).alloc (Nat.le_refl _) _)
  go_enter Try.func44, Try.ntmps44
  go_wp2_with fail
  refine (cmp_any _ _ _).mono ?_
  rintro e w1 ⟨rfl, rfl⟩
  go_wp2_with fail
  go_ret
  exact ⟨rfl, HB.out⟩

/-! ### by halves -/
def HalfS (ps : List Doc) (d : Int) (i j : Nat) : Prop := (∀ k (h : k < ps.length), k < i → ps[k].1 < d) ∧ (∀ k (h : k < ps.length), j ≤ k → d ≤ ps[k].1)
theorem half_up {ps : List Doc} {d : Int} {i j m : Nat} (hl : isS ps = true) (h : HalfS ps d i j) (hm : m < ps.length) (hd : ps[m].1 < d) : HalfS ps d (m + 1) j := by
  refine ⟨fun k hk hkm => ?_, h.2⟩
  by_cases e : k = m
  · subst e; exact hd
  · have := rises hl hk hm (by omega)
    omega
theorem half_down {ps : List Doc} {d : Int} {i j m : Nat} (hl : isS ps = true) (h : HalfS ps d i j) (hm : m < ps.length) (hd : ¬ ps[m].1 < d) : HalfS ps d i m := by
  refine ⟨h.1, fun k hk hkm => ?_⟩
  by_cases e : k = m
  · subst e; omega
  · have := rises hl hm hk (by omega)
    omega
theorem half_find {ps : List Doc} {d : Int} {i : Nat} (hl : isS ps = true) (h : HalfS ps d i i) : (∀ (hi : i < ps.length), ps[i].1 = d → findS ps d = some ps[i]) ∧ ((∀ (hi : i < ps.length), ps[i].1 ≠ d) → findS ps d = none) := by
  refine ⟨fun hi e => by rw [← e]; exact findS_at hl hi, fun hne => findS_none fun k hk e => ?_⟩
  rcases Nat.lt_trichotomy k i with hlt | rfl | hlt
  · have := h.1 k hk hlt; omega
  · exact hne hk e
  · have h1 := h.2 i (by omega) (Nat.le_refl _)
    have h2 := rises hl (show i < ps.length by omega) hk hlt
    omega
/-- What the search leaves. -/
def SearchLeft (ps : List Doc) (d : Int) (w : World) (e : Ending) (w' : World) : Prop := ∃ (i : Nat) (ok : Bool), e = .returned (.tuple #[.int .i64 i, .bool ok]) ∧ Below w.heap.size w w' ∧ (ok = true → ∃ h : i < ps.length, findS ps d = some ps[i]) ∧ (ok = false → findS ps d = none)
set_option maxRecDepth 100000 in
set_option maxHeartbeats 4000000 in
theorem search_any (v : Value) (ps : List Doc) (d : Int) (w : World) (hr : RAny docC w v ps) (hl : isS ps = true) (hn : ps.length ≤ 1000000) : Calls Try.prog 43 #[v, .int .i64 d, .func (.func 44) #[] #[]] w (SearchLeft ps d w) := by
  obtain ⟨p, cap, rfl, hlc, hcm, _⟩ := hr.shape
  unfold maxLen at hcm
  have HR := Lib.hid hr
  have HUP := Lib.hid (fun i j m (h : HalfS ps d i j) (hm : m < ps.length) (hd : ps[m].1 < d) => half_up hl h hm hd)
  have HDN := Lib.hid (fun i j m (h : HalfS ps d i j) (hm : m < ps.length) (hd : ¬ ps[m].1 < d) => half_down hl h hm hd)
  have HFD := Lib.hid (fun i (h : HalfS ps d i i) => half_find hl h)
  obtain ⟨n, hnn⟩ : ∃ n, ps.length = n := ⟨_, rfl⟩
  have HNN := Lib.hid hnn
  have H0 : Hid (HalfS ps d 0 n) := Lib.hid ⟨fun k h hk => by omega, fun k h hk => by omega⟩
  rw [hnn] at HR hn hlc ⊢
  clear hr hl hnn
  go_enter Try.func43, Try.ntmps43
  go_wp2_with fail
  go_loopw [9, 10] (fun iv jv wr => ∃ i j : Nat, i ≤ j ∧ j ≤ n ∧ iv = .int .i64 i ∧ jv = .int .i64 j ∧ Hid (HalfS ps d i j) ∧ Hid (Below w.heap.size w wr)) (fun iv jv _ => (intOf jv).toNat - (intOf iv).toNat)
  case atStart => exact ⟨0, n, by omega, by omega, rfl, rfl, H0, Lib.hid (Below.refl _ _)⟩
  case round =>
    obtain ⟨i, j, hij, hjn, rfl, rfl, HH, HB⟩ := hrel
    clear H0
    by_cases hlt : i < j
    · have t1 : decide ((i : Int) < (j : Int)) = true := by simp; omega
      have hm : (i + j) / 2 < ps.length := by rw [HNN.out]; omega
      obtain ⟨b, off, x, rfl, hbl, _, hc1, hc15, hc2, hx⟩ := doc_at (HR.out.below HB.out) hm
      have hup := HUP.out i j ((i + j) / 2) HH.out hm
      have hdn := HDN.out i j ((i + j) / 2) HH.out hm
      obtain ⟨z, hz⟩ : ∃ z, (ps[(i + j) / 2]'hm).1 = z := ⟨_, rfl⟩
      rw [hz] at hc1 hup hdn
      generalize (ps[(i + j) / 2]'hm).2.1 = tz at hc15
      obtain ⟨m, hmm⟩ : ∃ m, (i + j) / 2 = m := ⟨_, rfl⟩
      rw [hmm] at hc1 hc15 hc2 hup hdn
      have hmi : i ≤ m := by omega
      have hmj : m < j := by omega
      have e0 : IntKind.u64.wrap ((i : Int) + (j : Int)) = ((i + j : Nat) : Int) := by rw [IntKind.wrap_u64]; omega
      have e1 : ((i : Int) + (j : Int)) / 2 = (m : Int) := by omega
      have e2 : ((i : Int) + (j : Int)) >>> 1 = (m : Int) := by rw [Int.shiftRight_eq_div_pow]; exact e1
      have e3 : IntKind.i64.wrap (m : Int) = (m : Int) := by rw [IntKind.wrap_i64]; omega
      obtain ⟨px, cx, rfl, hx5, hx6, hx7⟩ := hx.shape
      generalize (ps[(i + j) / 2]'hm).2.2.length = nx at hc2
      have HUP2 := Lib.hid hup
      have HDN2 := Lib.hid hdn
      have HC1 := Lib.hid hc1
      clear hx hz hmm hup hdn hx5 hx7 hm
      by_cases hzd : z < d
      · have hc : cmpZ z d = -1 := by unfold cmpZ; rw [if_pos hzd]
        have HS := Lib.hid (HUP2.out hzd)
        have K := Lib.hid (fcmp_any z tz px nx cx d wr)
        rw [hc] at K
        clear hc hzd
        go_wp2_with fail
        refine K.out.mono ?_
        rintro e w3 ⟨rfl, hb3⟩
        have HB3 := Lib.hid (grow HB.out hb3)
        clear hb3 K
        go_wp2_with fail
        go_roundw
        case rel => exact ⟨m + 1, j, by omega, hjn, by go_num, rfl, HS, HB3⟩
        case measure => simp [intOf]; omega
      · have hc : decide (cmpZ z d < 0) = false := by unfold cmpZ; rw [if_neg hzd]; split <;> simp
        have HS := Lib.hid (HDN2.out (by omega))
        have K := Lib.hid (fcmp_any z tz px nx cx d wr)
        obtain ⟨c, hcc⟩ : ∃ c, cmpZ z d = c := ⟨_, rfl⟩
        rw [hcc] at K hc
        clear hcc hzd
        go_wp2_with fail
        refine K.out.mono ?_
        rintro e w3 ⟨rfl, hb3⟩
        have HB3 := Lib.hid (grow HB.out hb3)
        clear hb3 K
        go_wp2_with fail
        go_roundw
        case rel => exact ⟨i, m, hmi, by omega, rfl, rfl, HS, HB3⟩
        case measure => simp [intOf]; omega
    · obtain rfl : i = j := by omega
      have t1 : decide ((i : Int) < (i : Int)) = false := by simp
      obtain ⟨hF1, hF2⟩ := HFD.out i HH.out
      by_cases hin : i < n
      · have t2 : decide ((i : Int) < (n : Int)) = true := by simp; omega
        have him : i < ps.length := by rw [HNN.out]; exact hin
        obtain ⟨b, off, x, rfl, hbl, _, hc1, hc15, hc2, hx⟩ := doc_at (HR.out.below HB.out) him
        have hf1 := hF1 him
        have hf2 : ps[i].1 ≠ d → findS ps d = none := fun h => hF2 (fun _ => h)
        have HF1 := Lib.hid hf1
        have HF2 := Lib.hid hf2
        obtain ⟨z, hz⟩ : ∃ z, ps[i].1 = z := ⟨_, rfl⟩
        rw [hz] at hc1 HF1 HF2
        obtain ⟨px, cx, rfl, hx5, hx6, hx7⟩ := hx.shape
        generalize ps[i].2.1 = tz at hc15
        have K := Lib.hid (fcmp_any z tz px ps[i].2.2.length cx d wr)
        generalize ps[i].2.2.length = nx at hc2 K
        have HIM := Lib.hid him
        by_cases hzd : z = d
        · have hc : cmpZ z d = 0 := by unfold cmpZ; rw [if_neg (by omega), if_neg (by omega)]
          rw [hc] at K
          have HS := Lib.hid (HF1.out hzd)
          clear hx hx5 hx7 hz hc hf1 hf2 hF1 hF2 hzd HF1 HF2
          go_wp2_with fail
          refine K.out.mono ?_
          rintro e w3 ⟨rfl, hb3⟩
          have HB3 := Lib.hid (grow HB.out hb3)
          clear hb3 K
          go_wp2_with fail
          go_ret2
          exact ⟨i, true, rfl, HB3.out, fun _ => ⟨HIM.out, HS.out⟩, (fun h => by cases h)⟩
        · have hc : (cmpZ z d == 0) = false := by
            rw [beq_eq_false_iff_ne]
            unfold cmpZ
            by_cases h1 : z < d
            · rw [if_pos h1]; omega
            · rw [if_neg h1, if_pos (by omega)]; omega
          obtain ⟨c, hcc⟩ : ∃ c, cmpZ z d = c := ⟨_, rfl⟩
          rw [hcc] at K hc
          have HS := Lib.hid (HF2.out hzd)
          clear hx hx5 hx7 hz hcc hf1 hf2 hF1 hF2 hzd HF1 HF2
          go_wp2_with fail
          refine K.out.mono ?_
          rintro e w3 ⟨rfl, hb3⟩
          have HB3 := Lib.hid (grow HB.out hb3)
          clear hb3 K
          go_wp2_with fail
          go_ret2
          exact ⟨i, false, rfl, HB3.out, (fun h => by cases h), fun _ => HS.out⟩
      · have t2 : decide ((i : Int) < (n : Int)) = false := by simp; omega
        have HS := Lib.hid (hF2 (fun h => by rw [HNN.out] at h; omega))
        clear hF1 hF2
        go_wp2_with fail
        go_ret2
        exact ⟨i, false, rfl, HB.out, (fun h => by cases h), fun _ => HS.out⟩

theorem find_parts (o : Option (List Doc)) (d : Int) : findB o d = findS (o.getD []) d := by cases o <;> rfl
theorem dec_isS (bs : List UInt8) : isS ((decS bs).getD []) = true := by
  cases h : decS bs with
  | none => decide
  | some l => exact (decS_back h).1
set_option maxRecDepth 100000 in
set_option maxHeartbeats 2000000 in
theorem find_any (v : Value) (bs : List UInt8) (d : Int) (w : World) (h : BRow w v bs) (hl : bs.length ≤ 10000000000) : Calls Try.prog 21 #[v, .int .i64 d] w (FoundA (findB (decS bs) d) (errO (decS bs)) w) := by
  have hD := fun W hW => dec_any v bs W hW hl
  have his := dec_isS bs
  rw [find_parts]
  obtain ⟨L, hL⟩ : ∃ l, (decS bs).getD [] = l := ⟨_, rfl⟩
  obtain ⟨E, hE⟩ : ∃ l, errO (decS bs) = l := ⟨_, rfl⟩
  have HE0 : Hid (0 < L.length → E = 0) := Lib.hid (fun h0 => by
    cases hd : decS bs with
    | none => rw [hd] at hL; rw [← hL] at h0; simp at h0
    | some l => rw [hd] at hE; exact hE.symm)
  unfold DecA at hD
  rw [hL, hE] at hD
  rw [hL] at his
  rw [hL, hE]
  have hlen := (isS_iff.1 his).1
  obtain ⟨R, hR⟩ : ∃ R, w.heap.size = R := ⟨_, rfl⟩
  obtain ⟨wa, hwa⟩ : ∃ wa, w.alloc (.cells #[.int .i64 0, .int .i64 0, .slice none 0 0] 45) = wa := ⟨_, rfl⟩
  have hba : Below w.heap.size w wa := by rw [← hwa]; exact (Below.refl _ _).alloc (Nat.le_refl _) _
  have T0 : Hid (Three wa R 45 (.int .i64 0) (.int .i64 0) (.slice none 0 0)) := Lib.hid (by rw [← hwa, ← hR]; exact three_new w 45 _ _ _)
  have hsa : wa.heap.size = R + 1 := by rw [← hwa, ← hR]; simp
  have HD := Lib.hid (hD wa (BRow.below h hba))
  obtain ⟨p, cap, rfl, _⟩ := BIn.shape h
  have HBA := Lib.hid hba
  have HWA := Lib.hid hwa
  have HSE := Lib.hid (fun u W (hu : RAny docC W u L) => search_any u L d W hu his (by omega))
  clear hD hL hE h hba hwa
  go_enter Try.func21, Try.ntmps21
  go_wp2_with fail
  rw [HWA.out]
  refine HD.out.mono ?_
  rintro e w1 ⟨u, rfl, hu, hb⟩
  obtain ⟨pu, cu, rfl, hlc, _⟩ := hu.any.shape
  have HS := Lib.hid (HSE.out _ w1 hu.any)
  have HU := Lib.hid hu
  have HB1 := Lib.hid hb
  have hs1 := hb.size
  clear hu hb HD HSE
  go_wp2_with fail
  refine HS.out.mono ?_
  rintro e w2 ⟨i, ok, rfl, hb2, hok, hno⟩
  have hs2 := hb2.size
  have t2 := (T0.out.below HB1.out (by omega)).below hb2 (by omega)
  have hu2 := HU.out.keep (kep_below (fun _ => True) hb2) (fun _ _ _ => trivial)
  have HB2 := Lib.hid (HB1.out.trans (hb2.mono (by omega)))
  cases ok with
  | true =>
    obtain ⟨hi, hf⟩ := hok rfl
    obtain ⟨b, off, vf, rfl, hbl, _, c1, c2, c3, hff⟩ := doc_at hu2.any hi
    obtain ⟨⟨sq, ⟨tm, fs⟩⟩, hd⟩ : ∃ d, L[i] = d := ⟨_, rfl⟩
    obtain ⟨S9, hS9, hx9⟩ := hu2
    have hr9 := hx9.ron (T := fun b => b ≠ R) (fun g hg => by have := (hx9.cells hg).1; omega) (fun b _ hb => by have := (hS9 b hb).1; omega)
    obtain ⟨b', off', vf', hbe, _, _, _, _, c3', hf'⟩ := doc_at hr9 hi
    simp only [Option.some.injEq, Addr.mk.injEq, and_true] at hbe
    obtain ⟨rfl, rfl⟩ := hbe
    rw [c3] at c3'
    obtain rfl := Option.some.inj c3'
    rw [hd] at c1 c2 hf' hf
    dsimp only at c1 c2 hf'
    obtain ⟨pf, cf, rfl, _⟩ := hf'.shape
    obtain ⟨m1, m2, m3, ⟨k1, k2⟩, k3, k4⟩ := t2.all (.int .i64 sq) (.int .i64 tm)
    obtain ⟨n1, n2, n3⟩ := t2.cells
    have HX := Lib.hid (t2.set (.int .i64 sq) (.int .i64 tm) (.slice pf fs.length cf))
    have hk5 : Kep (fun b => b ≠ R) w2 (set3 w2 R (.int .i64 sq) (.int .i64 tm) (.slice pf fs.length cf)) := kep_set3 _ _ _
    have q4 : decide (i < L.length) = true := decide_eq_true hi
    have q5 : (i : Int) < (L.length : Int) := by omega
    have hE0 : E = 0 := HE0.out (by omega)
    have HQ : Hid (FoundA (findS L d) E w (.returned (.tuple #[.agg #[.int .i64 sq, .int .i64 tm, .slice pf fs.length cf], .bool true, .int .i64 0])) (set3 w2 R (.int .i64 sq) (.int .i64 tm) (.slice pf fs.length cf))) := Lib.hid
      (by rw [hf]; exact ⟨_, by rw [hE0]; rfl, (hf'.keep hk5 fun _ _ h => h).any, (HBA.out.trans (HB2.out.mono HBA.out.size)).trans (hk5.below (by have := HBA.out.size; omega) fun k hk => by omega)⟩)
    clear hb2 hok hno hf hf' hff hr9 hx9 hS9 hd hk5 t2 hE0 T0 HS HU HB1 HB2 HBA HWA his
    go_wp2_with fail
    refine bodyPost_ret (results_three3 (p := 4) (u := 5) (v := 6) rfl Try.underlying45 rfl infoDoc3 _ _ R _ _ _ rfl HX.out) rfl HQ.out
  | false =>
    have hf := hno rfl
    obtain ⟨m1, m2, m3, ⟨k1, k2⟩, k3, k4⟩ := t2.all (.int .i64 0) (.int .i64 0)
    obtain ⟨n1, n2, n3⟩ := t2.cells
    have HX := Lib.hid (t2.set (.int .i64 0) (.int .i64 0) (.slice none 0 0))
    have hk5 : Kep (fun b => b ≠ R) w2 (set3 w2 R (.int .i64 0) (.int .i64 0) (.slice none 0 0)) := kep_set3 _ _ _
    have HQ : Hid (FoundA (findS L d) E w (.returned (.tuple #[.agg #[.int .i64 0, .int .i64 0, .slice none 0 0], .bool false, .int .i64 E])) (set3 w2 R (.int .i64 0) (.int .i64 0) (.slice none 0 0))) := Lib.hid
      (by rw [hf]; exact ⟨_, rfl, ROn.nil_ _ _, (HBA.out.trans (HB2.out.mono HBA.out.size)).trans (hk5.below (by have := HBA.out.size; omega) fun k hk => by omega)⟩)
    clear hb2 hok hno hf hk5 t2 hu2 T0 HS HU HB1 HB2 HBA HWA his
    go_wp2_with fail
    refine bodyPost_ret (results_three3 (p := 4) (u := 5) (v := 6) rfl Try.underlying45 rfl infoDoc3 _ _ R _ _ _ rfl HX.out) rfl HQ.out
end Go.Proofs.Ythgfaadlnffpcaa.SR
