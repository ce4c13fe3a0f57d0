/-
  Which entries may be: the code's. Condition: numbers that an int holds.
-/
import Derived.Test.YtklngjnjnkocmaaZA35
import Derived.Laws.Cover1
set_option linter.unusedVariables false
namespace Go.Proofs.Ytklngjnjnkocmaa.DT
open Go Go.RowKit Go.Proofs.Ytklngjnjnkocmaa.MM Go.Proofs.Ytklngjnjnkocmaa.DM
open Go.Proofs.Ytklngjnjnkocmaa.EM (lessL less_bytes lessL_irr lessL_asym lessL_total)

theorem le_less (x t : List UInt8) : (lessL x t || (x == t)) = !lessL t x := by
  by_cases e : x = t
  · subst e; simp [lessL_irr]
  · have e2 : (x == t) = false := by rw [beq_eq_false_iff_ne]; exact e
    rw [e2, Bool.or_false]
    cases h : lessL x t with
    | true => rw [lessL_asym h]; rfl
    | false => rw [lessL_total h e]; rfl
theorem rises_drop {l : List Ent} {i : Nat} (hi : i < l.length) (t : List UInt8) : rises t (l.drop i) = (lessL t l[i].1 && rises l[i].1 (l.drop (i + 1))) := by
  rw [List.drop_eq_getElem_cons hi, rises]

set_option maxRecDepth 100000 in
set_option maxHeartbeats 1000000 in
theorem rising_any (v : Value) (l : List Ent) (t0 : List UInt8) (w : World) (hv : RAny entC w v l) : Calls Try.prog 24 #[v, .string ⟨t0.toArray⟩] w fun e w' => e = .returned (.bool (rises t0 l)) ∧ Below w.heap.size w w' := by
  obtain ⟨p, cap, rfl, hlc, hcm, _⟩ := hv.shape
  unfold maxLen at hcm
  obtain ⟨RES, hRES⟩ : ∃ RES, rises t0 l = RES := ⟨_, rfl⟩
  have H0 : Hid (rises t0 (l.drop 0) = RES) := Lib.hid hRES
  rw [hRES]
  have HV := Lib.hid hv
  clear hv hRES
  go_enter Try.func24, Try.ntmps24
  go_wp2_with fail
  go_loopw [1, 9] (fun tv iv wr => ∃ (i : Nat) (t : List UInt8), i ≤ l.length ∧ tv = .string ⟨t.toArray⟩ ∧ iv = .int .i64 i ∧ Hid (rises t (l.drop i) = RES) ∧ Hid (Below w.heap.size w wr)) (fun _ iv _ => l.length - (intOf iv).toNat)
  case atStart => exact ⟨0, t0, by omega, rfl, rfl, H0, Lib.hid (Below.refl _ _)⟩
  case round =>
    obtain ⟨i, t, hi, rfl, rfl, HI, HB⟩ := hrel
    clear H0
    by_cases hlt : i < l.length
    · have q1 : decide ((i : Int) < (l.length : Int)) = true := by rw [decide_eq_true_eq]; omega
      have q2 : decide (i < l.length) = true := by rw [decide_eq_true_eq]; omega
      have q3 : (i : Int) < (l.length : Int) := by omega
      obtain ⟨b, off, rfl, hbl, _, c1, c2, c3, c4⟩ := ent_at (RAny.below HV.out HB.out) hlt
      have hnx := HI.out
      rw [rises_drop hlt] at hnx
      generalize l[i] = X at *
      obtain ⟨X1, x2, x3, x4⟩ := X
      dsimp only at *
      have hle := le_less X1 t
      have hlb := less_bytes X1 t
      generalize lessL X1 t = b1 at *
      obtain ⟨b2, hb2⟩ : ∃ b, (X1 == t) = b := ⟨_, rfl⟩
      rw [hb2] at hle
      obtain ⟨W, hW⟩ : ∃ W, wr.alloc (.cells #[.string ⟨X1.toArray⟩, .int .i64 x2, .int .i64 x3, .int .i64 x4] 42) = W := ⟨_, rfl⟩
      have HB2 : Hid (Below w.heap.size w (wr.alloc (.cells #[.string ⟨X1.toArray⟩, .int .i64 x2, .int .i64 x3, .int .i64 x4] 42))) := Lib.hid (HB.out.trans ((Below.refl _ _).alloc HB.out.size _))
      clear HI hW
      obtain ⟨b3, hb3⟩ : ∃ b, lessL t X1 = b := ⟨_, rfl⟩
      rw [hb3] at hle hnx
      clear hb3
      cases b3 with
      | true =>
        rw [Bool.true_and] at hnx
        have HN := Lib.hid hnx
        obtain ⟨rfl, rfl⟩ : b1 = false ∧ b2 = false := by cases b1 <;> cases b2 <;> simp_all
        clear hnx hle
        go_wp2_with fail
        go_roundw
        case rel => exact ⟨i + 1, X1, by omega, rfl, by go_num, HN, HB2⟩
        case measure => simp [intOf]; omega
      | false =>
        rw [Bool.false_and] at hnx
        subst hnx
        have HLE : Hid ((b1 || b2) = true) := Lib.hid hle
        clear hle
        cases b1 with
        | true =>
          clear HLE hb2
          go_wp2_with fail
          go_ret
          exact ⟨rfl, HB2.out⟩
        | false =>
          obtain rfl : b2 = true := by have := HLE.out; simpa using this
          clear HLE
          go_wp2_with fail
          go_ret
          exact ⟨rfl, HB2.out⟩
    · obtain rfl : i = l.length := by omega
      have q1 : decide ((l.length : Int) < (l.length : Int)) = false := by simp
      have q2 : decide (l.length < l.length) = false := by simp
      have hf : RES = true := by rw [← HI.out, List.drop_length]; rfl
      subst hf
      clear HI hlt
      go_wp2_with fail
      go_ret
      exact ⟨rfl, HB.out⟩

instance (x : Ent) : Decidable (okW x) := by unfold okW; exact inferInstance

set_option maxRecDepth 100000 in
set_option maxHeartbeats 1000000 in
theorem isodd_any (x : Ent) (w : World) : Calls Try.prog 26 #[entV x] w fun e w' => e = .returned (.bool (!decide (okW x))) ∧ Below w.heap.size w w' := by
  obtain ⟨X1, a, b, c⟩ := x
  unfold entV
  dsimp only
  have hz := str_sz X1
  have HB : Hid (Below w.heap.size w (w.alloc (.cells #[.string ⟨X1.toArray⟩, .int .i64 a, .int .i64 b, .int .i64 c] 42))) := Lib.hid ((Below.refl _ _).alloc (Nat.le_refl _) _)
  have HW : Hid (decide (okW (X1, a, b, c)) = decide (X1.length ≤ 65 ∧ (0 ≤ a ∧ a ≤ 67108864) ∧ (0 ≤ b ∧ b ≤ 67108864) ∧ (0 ≤ c ∧ c ≤ 67108864))) := Lib.hid (by simp only [okW])
  go_enter Try.func26, Try.ntmps26
  go_wp2_with fail
  all_goals go_ret
  all_goals refine ⟨congrArg (fun b => Ending.returned (.bool b)) ?_, HB.out⟩
  all_goals rw [HW.out, Bool.eq_iff_iff]
  all_goals simp only [Bool.or_eq_true, Bool.not_eq_true', decide_eq_true_eq, decide_eq_false_iff_not, true_iff]
  all_goals omega
end Go.Proofs.Ytklngjnjnkocmaa.DT
