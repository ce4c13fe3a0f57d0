/-
  Which rows of docs may be: the reference's Is, Check. No condition. A doc at a place, of a number: the reference's At, Find. No condition.
-/
import Derived.Test.YthgfaadlnffpcaaZA12
import Derived.Test.YthgfaadlnffpcaaZA20
import Derived.Test.YthgfaadlnffpcaaZA11
import Derived.Test.YthgfaadlnffpcaaZA19
set_option linter.unusedVariables false
namespace Go.Proofs.Ythgfaadlnffpcaa.ST
open Go Go.RowKit Go.Proofs.Ythgfaadlnffpcaa.MM Go.Proofs.Ythgfaadlnffpcaa.EM Go.Proofs.Ythgfaadlnffpcaa.SM
open Go.Proofs.Ythgfaadlnffpcaa.EV (docC evC fldC doc_at BoolLeft IntLeft evBox box_below box_size box_in)

set_option maxRecDepth 100000 in
set_option maxHeartbeats 4000000 in
theorem ris_any (v : Value) (l : List Doc) (w : World) (hv : RAny docC w v l) : Calls Try.prog 29 #[v] w (BoolLeft (isS l) w) := by
  obtain ⟨p, cap, rfl, hlc, hcm, _⟩ := hv.shape
  unfold maxLen at hcm
  by_cases hl : l.length ≤ 65536
  · obtain ⟨RES, hRES⟩ : ∃ RES, isS l = RES := ⟨_, rfl⟩
    have h0 : isR 0 (l.drop 0) = RES := by rw [← hRES]; unfold isS; rw [decide_eq_true hl]; simp
    have q0 : decide ((l.length : Int) > 65536) = false := by rw [decide_eq_false_iff_not]; omega
    have q00 : decide (65536 < l.length) = false := decide_eq_false (by omega)
    rw [hRES]
    have H0 := Lib.hid h0
    have HV := Lib.hid hv
    clear h0 hRES hv
    go_enter Try.func29, Try.ntmps29
    go_wp2_with fail
    go_loopw [3, 4] (fun lv iv wr => ∃ (i : Nat) (z : Int), i ≤ l.length ∧ iv = .int .i64 i ∧ lv = .int .i64 z ∧ Hid (isR z (l.drop i) = RES) ∧ Hid (Below w.heap.size w wr)) (fun _ iv _ => l.length - (intOf iv).toNat)
    case atStart => exact ⟨0, 0, by omega, rfl, rfl, H0, Lib.hid (Below.refl _ _)⟩
    case round =>
      obtain ⟨i, z, hi, rfl, rfl, HI, HB⟩ := hrel
      clear H0
      by_cases hlt : i < l.length
      · have q1 : decide ((i : Int) < (l.length : Int)) = true := by rw [decide_eq_true_eq]; omega
        have q2 : decide (i < l.length) = true := by rw [decide_eq_true_eq]; omega
        obtain ⟨b, off, vf, rfl, hbl, _, c1, c2, c3, hf⟩ := doc_at (HV.out.below HB.out) hlt
        have hnx := HI.out
        rw [isR_step hlt] at hnx
        obtain ⟨⟨sq, ⟨at_, fs⟩⟩, hd⟩ : ∃ d, l[i] = d := ⟨_, rfl⟩
        rw [hd] at c1 c2 hf hnx
        dsimp only at c1 c2 hf hnx
        unfold okS at hnx
        dsimp only at hnx
        by_cases h1 : z < sq
        · by_cases h2 : sq ≤ 1099511627776
          · have t1 : decide (sq ≤ z) = false := by rw [decide_eq_false_iff_not]; omega
            have t2 : decide (sq > 1099511627776) = false := by rw [decide_eq_false_iff_not]; omega
            have t3 : decide (1099511627776 < sq) = false := by rw [decide_eq_false_iff_not]; omega
            rw [decide_eq_true h1, decide_eq_true h2, Bool.true_and, Bool.true_and] at hnx
            have HN := Lib.hid hnx
            have HC := Lib.hid (EV.rcheck_any at_ vf fs wr hf.any)
            have HC1 := Lib.hid c1
            have HBL := Lib.hid hbl
            have HLT := Lib.hid hlt
            clear HI hnx hd h1 h2 hf hlt
            go_wp2_with fail
            refine HC.out.mono ?_
            rintro e w2 ⟨rfl, hb2⟩
            have HB2 := Lib.hid (HB.out.trans (hb2.mono HB.out.size))
            have c1' := (hb2.cell (p := ⟨b, off + i * 3, none⟩) HBL.out).trans HC1.out
            clear hb2 HC c1 c2 c3
            obtain ⟨c, hc⟩ : ∃ c, checkE (at_, fs) = c := ⟨_, rfl⟩
            have hn := HN.out
            rw [hc] at hn ⊢
            by_cases h3 : c = 0
            · have t4 : (c != 0) = false := by simp [h3]
              rw [decide_eq_true h3, Bool.true_and] at hn
              have HN2 := Lib.hid hn
              clear HN hn hc h3
              go_wp2_with fail
              have hlt := HLT.out
              go_roundw
              case rel => exact ⟨i + 1, sq, by omega, by go_num, rfl, HN2, HB2⟩
              case measure => simp [intOf]; omega
            · have t4 : (c != 0) = true := by simp [h3]
              rw [decide_eq_false h3, Bool.false_and] at hn
              subst hn
              clear HN hc h3
              go_wp2_with fail
              go_ret
              exact ⟨rfl, HB2.out⟩
          · have t1 : decide (sq ≤ z) = false := by rw [decide_eq_false_iff_not]; omega
            have t2 : decide (sq > 1099511627776) = true := by rw [decide_eq_true_eq]; omega
            have t3 : decide (1099511627776 < sq) = true := by rw [decide_eq_true_eq]; omega
            rw [decide_eq_false h2, Bool.and_false, Bool.false_and, Bool.false_and] at hnx
            subst hnx
            clear HI hd h1 h2 hf
            go_wp2_with fail
            go_ret
            exact ⟨rfl, HB.out⟩
        · have t1 : decide (sq ≤ z) = true := by rw [decide_eq_true_eq]; omega
          rw [decide_eq_false h1, Bool.false_and, Bool.false_and, Bool.false_and] at hnx
          subst hnx
          clear HI hd h1 hf
          go_wp2_with fail
          go_ret
          exact ⟨rfl, HB.out⟩
      · obtain rfl : i = l.length := by omega
        have q1 : decide ((l.length : Int) < (l.length : Int)) = false := by simp
        have q2 : decide (l.length < l.length) = false := by simp
        have hn := HI.out
        rw [isR_end] at hn
        subst hn
        clear HI hlt
        go_wp2_with fail
        go_ret
        exact ⟨rfl, HB.out⟩
  · have q0 : decide ((l.length : Int) > 65536) = true := by rw [decide_eq_true_eq]; omega
    have q00 : decide (65536 < l.length) = true := decide_eq_true (by omega)
    have e : isS l = false := by unfold isS; rw [decide_eq_false hl]; rfl
    rw [e]
    clear e hv hl
    go_enter Try.func29, Try.ntmps29
    go_wp2_with fail
    go_ret
    exact ⟨rfl, Below.refl _ _⟩

set_option maxRecDepth 100000 in
theorem rcheck_any (v : Value) (l : List Doc) (w : World) (hv : RAny docC w v l) : Calls Try.prog 11 #[v] w (IntLeft (if isS l then 0 else 120) w) := by
  obtain ⟨p, cap, rfl, hlc, hcm, _⟩ := hv.shape
  have K := Lib.hid (ris_any _ l w hv)
  obtain ⟨c, hc⟩ : ∃ c, isS l = c := ⟨_, rfl⟩
  rw [hc] at K ⊢
  clear hv hc
  cases c with
  | true =>
    go_enter Try.func11, Try.ntmps11
    go_wp2_with fail
    refine K.out.mono ?_
    rintro e w1 ⟨rfl, hb1⟩
    have HB1 := Lib.hid hb1
    clear hb1 K
    go_wp2_with fail
    go_ret
    exact ⟨rfl, HB1.out⟩
  | false =>
    go_enter Try.func11, Try.ntmps11
    go_wp2_with fail
    refine K.out.mono ?_
    rintro e w1 ⟨rfl, hb1⟩
    have HB1 := Lib.hid hb1
    clear hb1 K
    go_wp2_with fail
    go_ret
    exact ⟨rfl, HB1.out⟩
end Go.Proofs.Ythgfaadlnffpcaa.ST
set_option linter.unusedVariables false
namespace Go.Proofs.Ythgfaadlnffpcaa.ST
open Go Go.RowKit Go.Proofs.Ythgfaadlnffpcaa.MM Go.Proofs.Ythgfaadlnffpcaa.EM Go.Proofs.Ythgfaadlnffpcaa.SM
open Go.Proofs.Ythgfaadlnffpcaa.EV (docC evC fldC doc_at BoolLeft IntLeft)

theorem infoDoc : (Try.prog.info? 45).map (·.size) = some 3 := by kernel_rfl
/-- A doc that was handed out, and what stands beside it; its fields lie in blocks of S. -/
def DocOut (S : Nat → Prop) (d : Doc) (x : Value) (w : World) (e : Ending) (w' : World) : Prop :=
  ∃ u, e = .returned (.tuple #[.agg #[.int .i64 d.1, .int .i64 d.2.1, u], x]) ∧ ROn fldC S w' u d.2.2 ∧ Below w.heap.size w w'
/-- The doc at a place, or zeros. -/
def atS (l : List Doc) (i : Int) : Doc × Int := if 0 ≤ i ∧ i < l.length then (l.getD i.toNat noDoc, 0) else (noDoc, 5)

set_option maxRecDepth 100000 in
set_option maxHeartbeats 2000000 in
theorem rat_any (B : Nat) (v : Value) (l : List Doc) (i : Int) (w : World) (hv : RBel docC B w v l) (hB : B ≤ w.heap.size) : Calls Try.prog 24 #[v, .int .i64 i] w (DocOut (fun b => b < B) (atS l i).1 (.int .i64 (atS l i).2) w) := by
  obtain ⟨p, cap, rfl, hlc, hcm, _⟩ := hv.shape
  unfold maxLen at hcm
  have hba : ∀ o, Below w.heap.size w (w.alloc o) := fun o => (Below.refl _ _).alloc (Nat.le_refl _) o
  have HBA := Lib.hid hba
  by_cases hi : 0 ≤ i ∧ i < l.length
  · have q1 : decide (i < 0) = false := by rw [decide_eq_false_iff_not]; omega
    have q2 : decide (i ≥ (l.length : Int)) = false := by rw [decide_eq_false_iff_not]; omega
    have q3 : decide ((l.length : Int) ≤ i) = false := by rw [decide_eq_false_iff_not]; omega
    obtain ⟨h0, h1⟩ := hi
    obtain ⟨k, rfl⟩ := Int.eq_ofNat_of_zero_le h0
    have hk : k < l.length := by omega
    obtain ⟨b, off, vf, rfl, hbl, hSb, c1, c2, c3, hf⟩ := doc_at hv hk
    have ea : atS l (k : Int) = (l[k], 0) := by unfold atS; rw [if_pos ⟨by omega, by omega⟩]; simp [List.getD, hk]
    rw [ea]
    clear ea
    obtain ⟨⟨sq, ⟨z, fs⟩⟩, hd⟩ : ∃ d, l[k] = d := ⟨_, rfl⟩
    rw [hd] at c1 c2 hf ⊢
    dsimp only at c1 c2 hf ⊢
    obtain ⟨pf, cf, rfl, _⟩ := hf.shape
    have q6 : decide (l.length ≤ k) = false := decide_eq_false (by omega)
    have HS := Lib.hid hf
    have d1 := ((hba (.cells #[.int .i64 0, .int .i64 0, .slice none 0 0] 45)).cell (p := ⟨b, off + k * 3, none⟩) hbl).trans c1
    have d2 := ((hba (.cells #[.int .i64 0, .int .i64 0, .slice none 0 0] 45)).cell (p := ⟨b, off + k * 3 + 1, none⟩) hbl).trans c2
    have d3 := ((hba (.cells #[.int .i64 0, .int .i64 0, .slice none 0 0] 45)).cell (p := ⟨b, off + k * 3 + 2, none⟩) hbl).trans c3
    have q4 : decide (k < l.length) = true := decide_eq_true hk
    have q5 : (k : Int) < (l.length : Int) := by omega
    clear hf hd hv c1 c2 c3 hba
    go_enter Try.func24, Try.ntmps24
    go_wp2_with fail
    refine bodyPost_ret (results_three2 (p := 4) (u := 5) rfl Try.underlying45 rfl infoDoc _ _ w.heap.size _ _ _ rfl (three_new w 45 _ _ _)) rfl ?_
    exact ⟨_, rfl, HS.out.keep (kep_alloc _ _ _) (fun _ _ h => h), HBA.out _⟩
  · have ea : atS l i = (noDoc, 5) := by unfold atS; rw [if_neg hi]
    rw [ea]
    clear ea hv hba
    by_cases h0 : i < 0
    · have q1 : decide (i < 0) = true := by rw [decide_eq_true_eq]; omega
      clear hi h0
      go_enter Try.func24, Try.ntmps24
      go_wp2_with fail
      refine bodyPost_ret (results_three2 (p := 4) (u := 5) rfl Try.underlying45 rfl infoDoc _ _ w.heap.size _ _ _ rfl (three_new w 45 _ _ _)) rfl ?_
      exact ⟨_, rfl, ROn.nil_ _ _, HBA.out _⟩
    · have q1 : decide (i < 0) = false := by rw [decide_eq_false_iff_not]; omega
      have q2 : decide (i ≥ (l.length : Int)) = true := by rw [decide_eq_true_eq]; omega
      have q3 : decide ((l.length : Int) ≤ i) = true := by rw [decide_eq_true_eq]; omega
      clear hi h0
      go_enter Try.func24, Try.ntmps24
      go_wp2_with fail
      refine bodyPost_ret (results_three2 (p := 4) (u := 5) rfl Try.underlying45 rfl infoDoc _ _ w.heap.size _ _ _ rfl (three_new w 45 _ _ _)) rfl ?_
      exact ⟨_, rfl, ROn.nil_ _ _, HBA.out _⟩

set_option maxRecDepth 100000 in
set_option maxHeartbeats 2000000 in
theorem rfind_any (B : Nat) (v : Value) (l : List Doc) (seq : Int) (w : World) (hv : RBel docC B w v l) (hB : B ≤ w.heap.size) : Calls Try.prog 25 #[v, .int .i64 seq] w (DocOut (fun b => b < B) ((findS l seq).getD noDoc) (.bool (findS l seq).isSome) w) := by
  obtain ⟨p, cap, rfl, hlc, hcm, _⟩ := hv.shape
  unfold maxLen at hcm
  obtain ⟨R, hR⟩ : ∃ R, w.heap.size = R := ⟨_, rfl⟩
  obtain ⟨wa, hwa⟩ : ∃ wa, w.alloc (.cells #[.int .i64 0, .int .i64 0, .slice none 0 0] 45) = wa := ⟨_, rfl⟩
  have hba : Below w.heap.size w wa := by rw [← hwa]; exact (Below.refl _ _).alloc (Nat.le_refl _) _
  have t0 : Three wa R 45 (.int .i64 0) (.int .i64 0) (.slice none 0 0) := by rw [← hwa, ← hR]; exact three_new w 45 _ _ _
  have HWA := Lib.hid hwa
  have HV := Lib.hid (hv.below (hba.mono hB))
  have HB0 := Lib.hid hba
  have HF0 := Lib.hid t0
  obtain ⟨RES, hRES⟩ : ∃ RES, findS l seq = RES := ⟨_, rfl⟩
  have H0 : Hid (findS (l.drop 0) seq = RES) := Lib.hid hRES
  rw [hRES]
  clear hwa hv hba t0 hRES
  go_enter Try.func25, Try.ntmps25
  go_wp2_with fail
  rw [HWA.out]
  go_loopw [6] (fun iv wr => ∃ i : Nat, i ≤ l.length ∧ iv = .int .i64 i ∧ Hid (wr = wa) ∧ Hid (findS (l.drop i) seq = RES)) (fun iv _ => l.length - (intOf iv).toNat)
  case atStart => exact ⟨0, by omega, rfl, Lib.hid rfl, H0⟩
  case round =>
    obtain ⟨i, hi, rfl, HW, HI⟩ := hrel
    obtain rfl := HW.out
    clear H0 HW
    by_cases hlt : i < l.length
    · have q1 : decide ((i : Int) < (l.length : Int)) = true := by rw [decide_eq_true_eq]; omega
      have q4 : decide (i < l.length) = true := by rw [decide_eq_true_eq]; omega
      have q8 : (i : Int) < (l.length : Int) := by omega
      obtain ⟨b, off, vf, rfl, hbl, _, c1, c2, c3, hf⟩ := doc_at HV.out hlt
      have hnx := HI.out
      rw [findS_step hlt] at hnx
      obtain ⟨⟨sq, ⟨z, fs⟩⟩, hd⟩ : ∃ d, l[i] = d := ⟨_, rfl⟩
      rw [hd] at c1 c2 hf hnx
      dsimp only at c1 c2 hf hnx
      by_cases he : sq = seq
      · rw [if_pos he] at hnx
        have q3 : (sq == seq) = true := by rw [beq_iff_eq]; exact he
        obtain ⟨pf, cf, rfl, _⟩ := hf.shape
        have HN := Lib.hid hnx
        have HS := Lib.hid hf
        obtain ⟨m1, m2, m3, ⟨k1, k2⟩, k3, k4⟩ := HF0.out.all (.int .i64 sq) (.int .i64 z)
        obtain ⟨n1, n2, n3⟩ := HF0.out.cells
        have HX := Lib.hid (HF0.out.set (.int .i64 sq) (.int .i64 z) (.slice pf fs.length cf))
        clear hnx HI hlt he hd hf
        go_wp2_with fail
        refine bodyPost_ret (results_three2 (p := 4) (u := 5) rfl Try.underlying45 rfl infoDoc _ _ R _ _ _ rfl HX.out) rfl ?_
        rw [← HN.out]
        exact ⟨_, rfl, HS.out.keep ((kep_set3 _ _ _).mono fun b (hb : b < B) => by omega) (fun _ _ h => h), HB0.out.trans ((kep_set3 _ _ _).below (by have := HB0.out.size; omega) (fun k hk => by omega))⟩
      · rw [if_neg he] at hnx
        have q3 : (sq == seq) = false := by rw [beq_eq_false_iff_ne]; exact he
        have HN := Lib.hid hnx
        clear hnx HI he hd hf
        go_wp2_with fail
        go_roundw
        case rel => exact ⟨i + 1, by omega, by go_num, Lib.hid trivial, HN⟩
        case measure => simp [intOf]; omega
    · obtain rfl : i = l.length := by omega
      have q1 : decide ((l.length : Int) < (l.length : Int)) = false := by simp
      have q2 : decide (l.length < l.length) = false := by simp
      have hnx := HI.out
      rw [List.drop_length] at hnx
      have hnx : none = RES := hnx
      subst hnx
      obtain ⟨m1, m2, m3, ⟨k1, k2⟩, k3, k4⟩ := HF0.out.all (.int .i64 0) (.int .i64 0)
      obtain ⟨n1, n2, n3⟩ := HF0.out.cells
      have HX := Lib.hid (HF0.out.set (.int .i64 0) (.int .i64 0) (.slice none 0 0))
      clear HI hlt
      go_wp2_with fail
      refine bodyPost_ret (results_three2 (p := 4) (u := 5) rfl Try.underlying45 rfl infoDoc _ _ R _ _ _ rfl HX.out) rfl ?_
      exact ⟨_, rfl, ROn.nil_ _ _, HB0.out.trans ((kep_set3 _ _ _).below (by have := HB0.out.size; omega) (fun k hk => by omega))⟩
end Go.Proofs.Ythgfaadlnffpcaa.ST
