/-
  The law DictNobody returns true: a dictionary that nobody made has nothing. No condition.
-/
import Derived.Test.YtklngjnjnkocmaaZA47
import Derived.Test.YtklngjnjnkocmaaZA48
set_option linter.unusedVariables false
namespace Go.Proofs.Ytklngjnjnkocmaa.DT
open Go Go.RowKit Go.Proofs.Ytklngjnjnkocmaa.MM Go.Proofs.Ytklngjnjnkocmaa.DM
open Go.Proofs.Ytklngjnjnkocmaa.EM (lessL)

theorem at_nil (i : Int) : atD [] i = none := by
  unfold atD
  rw [if_neg (by rintro ⟨h1, h2⟩; simp at h2; omega)]
theorem nil_are : areD [] = true := by decide
theorem nobody_at {w : World} {g : Nat} (h : Two w g 55 (.int .i64 0) (.slice none 0 0)) : DictP (fun _ => True) w (some ⟨g, 0, none⟩) [] := .inr ⟨g, rfl, .slice none 0 0, h, trivial, ROn.nil_ _ _⟩

set_option maxRecDepth 100000 in
set_option maxHeartbeats 1000000 in
theorem nobody_walk (s : ByteArray) (i : Int) (w : World) (h0 : -9223372036854775808 ≤ i) (h1 : i ≤ 9223372036854775807) : Calls Try.prog 6 #[.string s, .int .i64 i] w fun e w' => e = .returned (.bool true) ∧ Below w.heap.size w w' := by
  obtain ⟨t, rfl⟩ : ∃ t : List UInt8, s = ⟨t.toArray⟩ := ⟨s.data.toList, by simp⟩
  have HW := Lib.hid (fun W (hW : Below w.heap.size w W) => awake_any W)
  obtain ⟨g, hg⟩ : ∃ g, w.heap.size = g := ⟨_, rfl⟩
  obtain ⟨w0, hw0⟩ : ∃ W, w.alloc (.cells #[.int .i64 0, .slice none 0 0] 55) = W := ⟨_, rfl⟩
  obtain ⟨w1, hw1⟩ : ∃ W, w0.alloc (.cells #[.pointer none, .pointer (some ⟨g, 0, none⟩)] 31) = W := ⟨_, rfl⟩
  have hb0 : Below w.heap.size w w0 := by rw [← hw0]; exact (Below.refl _ _).alloc (Nat.le_refl _) _
  have hb1 : Below w0.heap.size w0 w1 := by rw [← hw1]; exact (Below.refl _ _).alloc (Nat.le_refl _) _
  have hs0 : w0.heap.size = g + 1 := by rw [← hw0, ← hg]; simp
  have t0 : Two w0 g 55 (.int .i64 0) (.slice none 0 0) := by rw [← hw0, ← hg]; exact two_new w 55 _ _
  have t1 : Two w1 (g + 1) 31 (.pointer none) (.pointer (some ⟨g, 0, none⟩)) := by rw [← hw1, ← hs0]; exact two_new w0 31 _ _
  have HT0 := Lib.hid (t0.below hb1 (by omega))
  have HT1 := Lib.hid t1
  have HB1 := Lib.hid (grow2 hb0 hb1)
  have HWA := Lib.hid hw0
  have HWB : Hid (w0.alloc (.cells #[.pointer none, .pointer (some ⟨g, 0, none⟩)] 31) = w1) := Lib.hid hw1
  have HS1 : Hid (g + 1 < w1.heap.size) := Lib.hid t1.lt
  clear hw0 hw1 hb0 hb1 t0 t1
  go_enter Try.func6, Try.ntmps6
  go_wp2_with fail
  rw [HWA.out, HWB.out]
  go_loopw [17] (fun kv wr => ∃ k : Nat, k ≤ 2 ∧ kv = .int .i64 (k : Int) ∧ Hid (Below w1.heap.size w1 wr)) (fun kv _ => 2 - (intOf kv).toNat)
  case atStart => exact ⟨0, by omega, rfl, Lib.hid (Below.refl _ _)⟩
  case round =>
    obtain ⟨k, hk, rfl, HB⟩ := hrel
    by_cases hlt : k < 2
    · have q1 : decide ((k : Int) < 2) = true := by rw [decide_eq_true_eq]; omega
      have q2 : decide (k < 2) = true := by rw [decide_eq_true_eq]; omega
      have q3 : (k : Int) < 2 := by omega
      obtain ⟨p, hp, hdp⟩ : ∃ p, wr.cell? ⟨g + 1, k, none⟩ = some (.pointer p) ∧ DictP (fun _ => True) wr p [] := by
        have hk2 : k = 0 ∨ k = 1 := by omega
        rcases hk2 with rfl | rfl
        · exact ⟨none, (HB.out.cell (p := ⟨g + 1, 0, none⟩) HS1.out).trans HT1.out.c0, .inl ⟨rfl, rfl⟩⟩
        · exact ⟨_, (HB.out.cell (p := ⟨g + 1, 1, none⟩) HS1.out).trans HT1.out.c1, (nobody_at HT0.out).below HB.out⟩
      have HP := Lib.hid hdp
      have HAT := Lib.hid (at_any p [] i wr hdp (by simp) (by simp) h0 h1)
      rw [at_nil] at HAT
      clear hdp hlt
      go_wp2_with fail
      refine HAT.out.mono ?_
      rintro e w2 ⟨rfl, hb2⟩
      dsimp only [Option.getD_none, Option.isSome_none]
      unfold entV nilX
      dsimp only
      have hb3 : Below w2.heap.size w2 (w2.alloc (.cells #[.string ⟨#[]⟩, .int .i64 0, .int .i64 0, .int .i64 0] 42)) := (Below.refl _ _).alloc (Nat.le_refl _) _
      have hb23 := grow2 hb2 hb3
      have HG := Lib.hid (get_any p [] t _ (HP.out.below hb23) nil_are)
      rw [show findD [] t = none from rfl] at HG
      have HP3 := Lib.hid (HP.out.below hb23)
      have HB3 := Lib.hid (grow2 HB.out hb23)
      clear hb2 hb3 hb23 HAT HP HB
      go_wp2_with fail
      refine HG.out.mono ?_
      rintro e w4 ⟨rfl, hb4⟩
      dsimp only [Option.getD_none, Option.isSome_none]
      unfold entV nilX
      dsimp only
      have hb5 : Below w4.heap.size w4 (w4.alloc (.cells #[.string ⟨#[]⟩, .int .i64 0, .int .i64 0, .int .i64 0] 42)) := (Below.refl _ _).alloc (Nat.le_refl _) _
      have hb45 := grow2 hb4 hb5
      have HP5 := HP3.out.below hb45
      have HL := Lib.hid (len_any p [] _ HP5)
      have HPR := Lib.hid (prefix_any p [] t _ HP5 nil_are)
      have HB5 := Lib.hid (grow2 HB3.out hb45)
      have HP6 := Lib.hid HP5
      clear HP5 hb4 hb5 hb45 HG HP3 HB3
      go_wp2_with fail
      refine HL.out.mono ?_
      rintro e w6 ⟨rfl, rfl⟩
      go_wp2_with fail
      refine HPR.out.mono ?_
      rintro e w7 ⟨v7, rfl, ho7, hb7⟩
      have HP7 := HP6.out.below hb7
      have HAL := Lib.hid (all_any p [] w7 HP7 nil_are)
      have HB7 := Lib.hid (grow2 HB5.out hb7)
      have HP8 := Lib.hid HP7
      obtain ⟨p7, c7, rfl, _⟩ := ho7.any.shape
      have hl7 : (prefD [] t).length = 0 := rfl
      rw [hl7]
      clear HP7 ho7 hb7 HPR HB5 HP6 HL
      go_wp2_with fail
      refine HAL.out.mono ?_
      rintro e w9 ⟨v9, rfl, ho9, hb9⟩
      have HFL := Lib.hid (floor_any p [] t w9 (HP8.out.below hb9) nil_are)
      rw [show floorD [] t = 0 from rfl] at HFL
      have HB9 := Lib.hid (grow2 HB7.out hb9)
      obtain ⟨p9, c9, rfl, _⟩ := ho9.any.shape
      have hl9 : ([] : List Ent).length = 0 := rfl
      rw [hl9]
      clear ho9 hb9 HAL HB7 HP8
      go_wp2_with fail
      refine HFL.out.mono ?_
      rintro e w10 ⟨rfl, _, hb10⟩
      have HB10 := Lib.hid (grow2 HB9.out hb10)
      clear hb10 HFL HB9
      go_wp2_with fail
      go_roundw
      case rel => exact ⟨k + 1, by omega, by go_num, HB10⟩
      case measure => simp [intOf]; omega
    · obtain rfl : k = 2 := by omega
      have q1 : decide (((2 : Nat) : Int) < 2) = false := by decide
      have q2 : decide ((2 : Nat) < 2) = false := by decide
      have hB := grow2 HB1.out HB.out
      have HWE := Lib.hid (HW.out wr hB)
      have HBE := Lib.hid hB
      clear hB hlt HW
      go_wp2_with fail
      refine HWE.out.mono ?_
      rintro e w2 ⟨rfl, hb2⟩
      have HB2 := Lib.hid (grow2 HBE.out hb2)
      clear hb2 HWE HBE
      go_wp2_with fail
      go_ret
      exact ⟨rfl, HB2.out⟩
end Go.Proofs.Ytklngjnjnkocmaa.DT
