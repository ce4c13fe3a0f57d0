/-
  The law of P7.4 and P7.6 walked: it returns true at any text. Condition: a text is no longer than memory bears.
-/
import Derived.Test.YtnacfdcnhecjeaaTokAwake
import Derived.Test.YtnacfdcnhecjeaaUtfFold0
set_option linter.unusedVariables false
namespace Go.Proofs.Ytnacfdcnhecjeaa.TK
open Go.RowKit Go.Proofs.Ytnacfdcnhecjeaa.MM

set_option maxRecDepth 100000 in
set_option maxHeartbeats 1000000 in
theorem again_walk (s : ByteArray) (w : World) (hs : s.size ≤ maxLen) : Calls Try.prog 5 #[.string s] w fun e w' => e = .returned (.bool true) ∧ Below w.heap.size w w' := by
  have HC := Lib.hid (fun W => cut7_any s W hs)
  have hcs := cutS_size s
  obtain ⟨t, ht⟩ : ∃ t, cutS s = t := ⟨_, rfl⟩
  rw [ht] at HC hcs
  have H1 := Lib.hid (fun W => tokens_any t W (by omega))
  have HFo := Lib.hid (fun W => UM.fold_any t W (by omega))
  have hcount := wordsB_count t.data.toList
  have hself := word_self t.data.toList
  have hall := allL_words t.data.toList
  have hfo := wordsB_fold t.data.toList
  have hfl : (UM.foldL t.data.toList).length ≤ 6000 := by
    unfold UM.foldL
    have h1 := UM.encL_length ((UM.runesL t.data.toList).map UM.lowerZ)
    have h2 := UM.runesL_length t.data.toList
    rw [List.length_map] at h1
    rw [← Lib.size_eq] at h2
    omega
  have H2 := Lib.hid (fun W => tokens_any ⟨(UM.foldL t.data.toList).toArray⟩ W (by rw [text_size]; omega))
  have efo : (⟨(UM.foldL t.data.toList).toArray⟩ : ByteArray).data.toList = UM.foldL t.data.toList := by simp
  rw [efo, hfo] at H2
  obtain ⟨F, hF⟩ : ∃ F : ByteArray, F = ⟨(UM.foldL t.data.toList).toArray⟩ := ⟨_, rfl⟩
  rw [← hF] at H2 HFo
  rw [← Lib.size_eq] at hcount
  obtain ⟨ws, hws⟩ : ∃ ws, wordsB t.data.toList = ws := ⟨_, rfl⟩
  rw [hws] at H1 H2 hcount hself hall
  have hlen := allL_len ws (fun x hx => (hself x hx).2)
  have H3 := Lib.hid (fun W => tokens_any ⟨(allL ws).toArray⟩ W (by rw [text_size]; omega))
  have eal : (⟨(allL ws).toArray⟩ : ByteArray).data.toList = allL ws := by simp
  rw [eal, hall] at H3
  have hwl : ws.length ≤ 1500 := by omega
  have HSE := Lib.hid hself
  have HAL : Hid (∀ k, k ≤ ws.length → (allL (ws.take k)).length ≤ 50000) := Lib.hid (fun k hk => by
    have h1 := allL_len (ws.take k) (fun x hx => (hself x (List.mem_of_mem_take hx)).2)
    have h2 : (ws.take k).length ≤ k := List.length_take_le _ _
    omega)
  clear hself hall hfo hfl efo hF hws hlen eal ht hcs hs hcount
  go_enter Try.func5, Try.ntmps5
  go_wp2_with fail
  refine (HC.out _).mono ?_
  rintro e w1 ⟨rfl, rfl⟩
  clear HC
  go_wp2_with fail
  refine (H1.out _).mono ?_
  rintro e w1 ⟨v1, rfl, k1, b1⟩
  have K1 := Lib.hid k1
  obtain ⟨p, cap, rfl, hlc, hcm⟩ := k1.shape
  unfold maxLen at hcm
  rw [numT_len] at hlc
  rw [numT_len] at K1
  rw [numT_len]
  have HB1 := Lib.hid b1
  have hsz1 := b1.size
  have HB0 : Hid (Below w1.heap.size w1 w1) := Lib.hid (Below.refl _ _)
  clear k1 H1 b1
  go_wp2_with fail
  go_loopw [4, 5] (fun u i wr => ∃ k : Nat, k ≤ ws.length ∧ i = .int .i64 k ∧ u = .string ⟨(allL (ws.take k)).toArray⟩ ∧ Hid (Below w1.heap.size w1 wr)) (fun _ i _ => ws.length - (intOf i).toNat)
  case atStart => exact ⟨0, by omega, rfl, rfl, HB0⟩
  case round =>
    obtain ⟨k, hk, rfl, rfl, HB⟩ := hrel
    clear HB0
    have hsz := HB.out.size
    by_cases hlt : k < ws.length
    · have t1 : decide ((k : Int) < (ws.length : Int)) = true := by simp; omega
      obtain ⟨b, off, rfl, hbl, hcell, hcellp⟩ := KIn.at_ K1.out (k := k) (by rw [numT_len]; exact hlt)
      rw [numT_at] at hcell hcellp
      have hs1 := HSE.out ws[k] (List.getElem_mem hlt)
      have hnx : allL (ws.take (k + 1)) = allL (ws.take k) ++ (ws[k] ++ [32]) := by
        rw [List.take_succ_eq_append_getElem hlt, allL_append]
        simp [allL]
      have hal := HAL.out k hk
      obtain ⟨x, hx⟩ : ∃ x, ws[k] = x := ⟨_, rfl⟩
      simp only [hx] at hcell hcellp hs1 hnx
      have hw := fun W => isword_any ⟨x.toArray⟩ W (by rw [text_size]; omega)
      have ex : (⟨x.toArray⟩ : ByteArray).data.toList = x := by simp
      have hwl2 : wordL x = true := by unfold wordL; rw [hs1.1]; simp
      rw [ex, hwl2] at hw
      have HW := Lib.hid hw
      have hc1 := (HB.out.cell (p := ⟨b, off + k * 2, none⟩) hbl).trans hcell
      have hc2 := (HB.out.cell (p := ⟨b, off + k * 2 + 1, none⟩) hbl).trans hcellp
      have hxs := text_size x
      have hys := text_size (allL (ws.take k))
      have hcat : (⟨(allL (ws.take k)).toArray⟩ : ByteArray) ++ (⟨x.toArray⟩ ++ ⟨#[32]⟩) = ⟨(allL (ws.take (k + 1))).toArray⟩ := by
        have e : (⟨#[32]⟩ : ByteArray) = ⟨([32] : List UInt8).toArray⟩ := rfl
        rw [e, bytes_cat, bytes_cat, hnx]
      have h32 : x.length ≤ 32 := hs1.2
      obtain ⟨X, hX⟩ : ∃ y : ByteArray, y = ⟨x.toArray⟩ := ⟨_, rfl⟩
      obtain ⟨Y, hY⟩ : ∃ y : ByteArray, y = ⟨(allL (ws.take k)).toArray⟩ := ⟨_, rfl⟩
      rw [← hX] at hxs hcat hc1 HW
      rw [← hY] at hys hcat ⊢
      have q1 : X.size ≤ 32 := by omega
      have q3 : decide ((X.size : Int) > 32) = false := by rw [decide_eq_false_iff_not]; omega
      have q2 : Y.size ≤ 50000 := by omega
      have HCAT := Lib.hid hcat
      clear hcell hcellp hs1 hnx hw ex hwl2 hxs hys hcat hX hY hx hal h32
      go_wp2_with fail
      refine (HW.out _).mono ?_
      rintro e w2 ⟨rfl, b2⟩
      have hc3 := (b2.cell (p := ⟨b, off + k * 2, none⟩) (by simp; omega)).trans hc1
      have HB2 := Lib.hid (HB.out.trans (b2.mono hsz))
      clear b2 HW hc1 hc2
      go_wp2_with fail
      rw [HCAT.out]
      go_roundw
      case rel => exact ⟨k + 1, by omega, by go_num, rfl, HB2⟩
      case measure => simp [intOf]; omega
    · obtain rfl : k = ws.length := by omega
      have t1 : decide ((ws.length : Int) < (ws.length : Int)) = false := by simp
      rw [List.take_length]
      obtain ⟨Y, hY⟩ : ∃ y : ByteArray, y = ⟨(allL ws).toArray⟩ := ⟨_, rfl⟩
      rw [← hY] at H3 ⊢
      clear hY
      have c1 := HB1.out.trans (HB.out.mono hsz1)
      have K2 := Lib.hid (K1.out.below HB.out)
      clear HB K1 HB1
      go_wp2_with fail
      refine (H3.out _).mono ?_
      rintro e w2 ⟨v2, rfl, k2, b2⟩
      have c2 := grow c1 b2
      have K3 := Lib.hid (K2.out.below b2)
      have HS := Lib.hid (same_any v2 _ _ w2 k2 K3.out)
      clear k2 H3 K2 b2 c1
      go_wp2_with fail
      refine HS.out.mono ?_
      rintro e w3 ⟨rfl, b3⟩
      have c3 := grow c2 b3
      have K4 := Lib.hid (K3.out.below b3)
      clear HS K3 b3 c2
      go_wp2_with fail
      refine (HFo.out _).mono ?_
      rintro e w4 ⟨rfl, b4⟩
      have c4 := grow c3 b4
      have K5 := Lib.hid (K4.out.below b4)
      clear HFo K4 b4 c3
      go_wp2_with fail
      refine (H2.out _).mono ?_
      rintro e w5 ⟨v5, rfl, k5, b5⟩
      have c5 := grow c4 b5
      have HS := Lib.hid (same_any v5 _ _ w5 k5 (K5.out.below b5))
      clear k5 H2 K5 b5 c4
      go_wp2_with fail
      refine HS.out.mono ?_
      rintro e w6 ⟨rfl, b6⟩
      have c6 := grow c5 b6
      clear HS b6 c5
      go_wp2_with fail
      refine (awake_any _).mono ?_
      rintro e w7 ⟨rfl, b7⟩
      have c7 := grow c6 b7
      clear b7 c6
      go_wp2_with fail
      go_ret
      exact ⟨rfl, c7⟩
end Go.Proofs.Ytnacfdcnhecjeaa.TK
