/-
  The law DiskMany: how many files there may be. No condition.
-/
import Derived.Test.YtkpbgpnpheaegaaDskAwake
import Derived.Test.YtkpbgpnpheaegaaDskManyM
set_option linter.unusedVariables false
namespace Go.Proofs.Ytkpbgpnpheaegaa.DK
open Go.RowKit Go.Proofs.Ytkpbgpnpheaegaa.MM Go.Maps

theorem ex_four (w : World) (a b c : Nat) (ha : a < 26) (hb : b < 26) (hc : c < 26) :
    BRow (w.alloc (.cells #[.int .u8 102, .int .u8 (97 + (a : Int)), .int .u8 (97 + (b : Int)), .int .u8 (97 + (c : Int))] 5)) (.slice (some ⟨w.heap.size, 0, none⟩) 4 4) [102, UInt8.ofNat (97 + a), UInt8.ofNat (97 + b), UInt8.ofNat (97 + c)] := by
  refine brow_block [102, UInt8.ofNat (97 + a), UInt8.ofNat (97 + b), UInt8.ofNat (97 + c)] (heap_alloc_new w _) ?_ (by unfold maxLen; simp)
  simp only [Lib.byteCells, List.map_cons, List.map_nil]
  rw [ofNat_toNat _ (by omega), ofNat_toNat _ (by omega), ofNat_toNat _ (by omega)]
  simp
theorem ex_one (w : World) (a : UInt8) (fr : Nat × Nat) : BRow (w.alloc (.cells #[.int .u8 (a.toNat : Int)] 5 fr)) (.slice (some ⟨w.heap.size, 0, none⟩) 1 1) [a] :=
  brow_block [a] (heap_alloc_new w _) rfl (by unfold maxLen; simp)
set_option maxRecDepth 100000 in
set_option maxHeartbeats 2000000 in
theorem many_walk (m : Nat) (w : World) (hm : m < 256) : Calls Try.prog 6 #[.int .u8 (m : Int)] w fun e w' => e = .returned (.bool true) ∧ Below w.heap.size w w' := by
  have hmod : (m : Int) % 3 = ((m % 3 : Nat) : Int) := by omega
  obtain ⟨k, hk⟩ : ∃ k, m % 3 = k := ⟨_, rfl⟩
  rw [hk] at hmod
  have hk3 : k < 3 := by omega
  clear hk
  go_enter Try.func6, Try.ntmps6
  go_wp2_with fail
  refine (dnew _ 0 (by omega)).mono ?_
  rintro e w1 ⟨g, rfl, hd1, hb1⟩
  have HD1 := Lib.hid hd1
  have HB1 := Lib.hid hb1
  clear hd1 hb1
  go_wp2_with fail
  refine (awake_any _).mono ?_
  rintro e w2 ⟨rfl, hb2⟩
  have HD2 := Lib.hid (HD1.out.below hb2)
  have HB2 := Lib.hid (HB1.out.trans (hb2.mono HB1.out.size))
  clear hb2 HD1 HB1
  go_wp2_with fail
  clear hmod
  go_loopw [6] (fun iv wr => ∃ (i : Nat) (d : DiskD), i ≤ 1023 + k ∧ iv = .int .i64 (i : Int) ∧ Hid (Many i d) ∧ Hid (Disk w.heap.size wr g d) ∧ Hid (Below w.heap.size w wr)) (fun iv _ => 1023 + k - (intOf iv).toNat)
  case atStart => exact ⟨0, _, by omega, rfl, Lib.hid many_zero, HD2, HB2⟩
  case round =>
    obtain ⟨i, d, hi, rfl, HMY, HD, HB⟩ := hrel
    clear HD2 HB2
    by_cases hlt : i < 1023 + k
    · have q1 : decide ((i : Int) < 1023 + (k : Int)) = true := by rw [decide_eq_true_eq]; omega
      obtain ⟨A, hA⟩ : ∃ A, i / 676 = A := ⟨_, rfl⟩
      obtain ⟨B0, hB0⟩ : ∃ A, i / 26 = A := ⟨_, rfl⟩
      obtain ⟨B, hB⟩ : ∃ A, B0 % 26 = A := ⟨_, rfl⟩
      obtain ⟨C, hC⟩ : ∃ A, i % 26 = A := ⟨_, rfl⟩
      have d1 : (i : Int) / 676 = (A : Int) := by omega
      have d2 : (i : Int) / 26 = (B0 : Int) := by omega
      have d3 : (B0 : Int) % 26 = (B : Int) := by omega
      have d4 : (i : Int) % 26 = (C : Int) := by omega
      have hA26 : A < 26 := by omega
      have hB26 : B < 26 := by omega
      have hC26 : C < 26 := by omega
      have hn : nm i = [102, UInt8.ofNat (97 + A), UInt8.ofNat (97 + B), UInt8.ofNat (97 + C)] := by unfold nm; rw [hA, hB0, hB, hC]
      obtain ⟨c1, c2⟩ := many_step HMY.out (by omega)
      have HC := Lib.hid (fun o => BIn.conv (ex_four o A B C hA26 hB26 hC26))
      have hconv := HC.out wr
      rw [← hn] at hconv
      obtain ⟨x, hx⟩ : ∃ x : ByteArray, (⟨(nm i).toArray⟩ : ByteArray) = x := ⟨_, rfl⟩
      rw [hx] at hconv
      have hba : ∀ o, Below wr.heap.size wr (wr.alloc o) := fun o => (Below.refl _ _).alloc (Nat.le_refl _) _
      have HAP := Lib.hid (fun o => dappend (HD.out.below (hba o)) (Nat.le_trans HB.out.size (hba o).size) HMY.out.fits (nm i) (by unfold nm; simp) (.slice none 0 0) [] (BRow.nil_ _) (by simp))
      have HBA := Lib.hid (fun o => HB.out.trans ((hba o).mono HB.out.size))
      rw [hx] at HAP
      have HC1 := Lib.hid c1
      have HC2 := Lib.hid c2
      have HLT := Lib.hid hlt
      clear hn c1 c2 hA hB0 hB hC HC hx hba hlt
      go_wp2_with fail
      refine (HAP.out _).mono ?_
      rintro e w3 ⟨rfl, hd3, hb3⟩
      rw [HC1.out]
      have HD3 := Lib.hid hd3
      have HB3 := Lib.hid ((HBA.out _).trans hb3)
      clear hd3 hb3 HAP hconv
      by_cases h4 : i < 1024
      case' pos =>
        have r1 : decide ((i : Int) < 1024) = true := by rw [decide_eq_true_eq]; omega
        have r2 : decide (i < 1024) = true := by rw [decide_eq_true_eq]; omega
        have r3 : decide ((i : Int) ≥ 1024) = false := by rw [decide_eq_false_iff_not]; omega
        have r4 : decide (1024 ≤ i) = false := by rw [decide_eq_false_iff_not]; omega
        have r5 : i < 1024 := h4
        rw [if_pos h4]
        clear h4
        go_wp2_with fail
      case' neg =>
        have r1 : decide ((i : Int) < 1024) = false := by rw [decide_eq_false_iff_not]; omega
        have r2 : decide (i < 1024) = false := by rw [decide_eq_false_iff_not]; omega
        have r3 : decide ((i : Int) ≥ 1024) = true := by rw [decide_eq_true_eq]; omega
        have r4 : decide (1024 ≤ i) = true := by rw [decide_eq_true_eq]; omega
        rw [if_neg h4]
        clear h4
        go_wp2_with fail
      all_goals (
        have hlt := HLT.out
        go_roundw
        case rel => exact ⟨i + 1, _, by omega, by go_num, HC2, HD3, HB3⟩
        case measure => simp [intOf]; omega)
    · obtain rfl : i = 1023 + k := by omega
      have q1 : decide (((1023 + k : Nat) : Int) < 1023 + (k : Int)) = false := by rw [decide_eq_false_iff_not]; omega
      have hms := HMY.out.s
      have HLI := Lib.hid (dlist HD.out HMY.out.fits)
      obtain ⟨q, hq⟩ : ∃ q, min (1023 + k) 1024 = q := ⟨_, rfl⟩
      have hmin : (if (1024 : Int) < 1023 + (k : Int) then (1024 : Int) else 1023 + (k : Int)) = (q : Int) := by rw [← hq]; split <;> omega
      have hlen := HMY.out.len
      have hend := many_end HMY.out (by omega)
      rw [hq] at hlen
      have HLEN := Lib.hid hlen
      have HEND := Lib.hid hend
      rw [hms, if_neg Bool.false_ne_true] at HLI
      clear hlen hend hms hq
      go_wp2_with fail
      refine HLI.out.mono ?_
      rintro e w3 ⟨v, rfl, hs, hb3⟩
      obtain ⟨pv, cv, rfl, _, _⟩ := hs.shape
      rw [List.length_map, HLEN.out]
      have hba : ∀ o, Below w3.heap.size w3 (w3.alloc o) := fun o => (Below.refl _ _).alloc (Nat.le_refl _) _
      have hb3' := HB.out.trans (hb3.mono HB.out.size)
      have HAP := Lib.hid (dappend ((HD.out.below hb3).below (hba (.cells #[.int .u8 1] 5))) (Nat.le_trans hb3'.size (hba _).size) HMY.out.fits (nm 0) (by unfold nm; simp) _ [1] (ex_one w3 1 (0, 0)) (by simp))
      have HBA := Lib.hid (hb3'.trans ((hba (.cells #[.int .u8 1] 5)).mono hb3'.size))
      clear hs hb3 hba hb3' HLI
      go_wp2_with fail
      refine HAP.out.mono ?_
      rintro e w4 ⟨rfl, hd4, hb4⟩
      rw [HEND.out]
      have HB4 := Lib.hid (HBA.out.trans hb4)
      clear hd4 hb4 HAP
      go_wp2_with fail
      go_ret
      exact ⟨rfl, HB4.out⟩
end Go.Proofs.Ytkpbgpnpheaegaa.DK
