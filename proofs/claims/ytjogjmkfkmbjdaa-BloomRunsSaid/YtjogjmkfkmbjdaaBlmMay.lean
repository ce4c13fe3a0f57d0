/-
  What may be there, by the code. Condition: a text has at most a million bytes.
-/
import Derived.Test.YtjogjmkfkmbjdaaBlmCode
set_option linter.unusedVariables false
namespace Go.Proofs.Ytjogjmkfkmbjdaa.BL
open Go.RowKit Go.Proofs.Ytjogjmkfkmbjdaa.MM Go.Proofs.Ytjogjmkfkmbjdaa.BM

theorem index_four (m : Nat) (s : List UInt8) (i : Nat) (hi : i < 4) (W : World) : (Instr.index 58 (.agg (plA m s)) (.int .i64 (i : Int))).run Try.prog W = .ok (.int .i64 (placeL m s i : Nat)) W := by
  unfold plA
  match i, hi with
  | 0, _ => generalize placeL m s 0 = a; generalize placeL m s 1 = b; generalize placeL m s 2 = c; generalize placeL m s 3 = d; rfl
  | 1, _ => generalize placeL m s 0 = a; generalize placeL m s 1 = b; generalize placeL m s 2 = c; generalize placeL m s 3 = d; rfl
  | 2, _ => generalize placeL m s 0 = a; generalize placeL m s 1 = b; generalize placeL m s 2 = c; generalize placeL m s 3 = d; rfl
  | 3, _ => generalize placeL m s 0 = a; generalize placeL m s 1 = b; generalize placeL m s 2 = c; generalize placeL m s 3 = d; rfl

set_option maxRecDepth 100000 in
set_option maxHeartbeats 1000000 in
theorem may_any (g b cap : Nat) (L s : List UInt8) (w : World) (h : FAt w g b cap L) (hs : s.length ≤ 1000000) :
    Calls Try.prog 13 #[.pointer (some ⟨g, 0, none⟩), .string ⟨s.toArray⟩] w fun e w' => e = .returned (.bool (mayL L s)) ∧ Below w.heap.size w w' := by
  have hlo := h.lo
  have hhi := h.hi
  have HM := Lib.hid (made_any g b cap L w h)
  have hc := h.cell
  have HS := Lib.hid (fun W => size_any (some ⟨b, 0, none⟩) L.length cap W hhi)
  have HP := Lib.hid (fun W => places_any s L.length W (by omega) hlo hhi)
  have HIX := Lib.hid (fun i hi W => index_four (8 * L.length) s i hi W)
  obtain ⟨P, hP⟩ : ∃ P, plA (8 * L.length) s = P := ⟨_, rfl⟩
  rw [hP] at HP HIX
  have HF := Lib.hid h
  have HPL : Hid (∀ i, placeL (8 * L.length) s i < 8 * L.length) := Lib.hid (fun i => placeL_lt s i (by omega))
  have HN := Lib.hid (mayI_next L s)
  have HX := Lib.hid (fun i (hi : i < 4) hh => mayI_false (L := L) (s := s) hi hh)
  have HE : Hid (mayI L s 4 = mayL L s) := Lib.hid rfl
  obtain ⟨R, hR⟩ : ∃ R, mayL L s = R := ⟨_, rfl⟩
  rw [hR] at HX HE ⊢
  clear h hR hP
  go_enter Try.func13, Try.ntmps13
  go_wp2_with fail
  refine HM.out.mono ?_
  rintro e w1 ⟨rfl, rfl⟩
  go_wp2_with fail
  refine (HS.out _).mono ?_
  rintro e w1 ⟨rfl, rfl⟩
  go_wp2_with fail
  refine (HP.out _).mono ?_
  rintro e w1 ⟨rfl, hb1⟩
  have HB1 := Lib.hid hb1
  have HF1 := Lib.hid (HF.out.below hb1)
  have H0 : Hid (mayI L s 0 = true) := Lib.hid rfl
  clear hb1 HM HS HP hc
  go_wp2_with fail
  go_loopw [17] (fun iv wr => ∃ i : Nat, i ≤ 4 ∧ iv = .int .i64 i ∧ Hid (mayI L s i = true) ∧ wr = w1) (fun iv _ => 4 - (intOf iv).toNat)
  case atStart => exact ⟨0, by omega, rfl, H0, rfl⟩
  case round =>
    obtain ⟨i, hi, rfl, HI, rfl⟩ := hrel
    clear H0
    by_cases hlt : i < 4
    · have t1 : decide ((i : Int) < 4) = true := by simp; omega
      have hix := HIX.out i hlt
      have hc := HF1.out.cell
      have HH := Lib.hid (chas_any g b cap L _ wr HF1.out (HPL.out i))
      have hn := HN.out i
      rw [HI.out, Bool.true_and] at hn
      have hx := HX.out i hlt
      obtain ⟨X, hX⟩ : ∃ X, placeL (8 * L.length) s i = X := ⟨_, rfl⟩
      rw [hX] at hix HH hn hx
      cases hb : hasL L X with
      | true =>
        rw [hb] at hn HH
        have HN2 := Lib.hid hn
        clear hx hb hn hX
        go_wp2_with fail
        refine HH.out.mono ?_
        rintro e w2 ⟨rfl, rfl⟩
        go_wp2_with fail
        go_roundw
        case rel => exact ⟨i + 1, by omega, by go_num, HN2, trivial⟩
        case measure => simp [intOf]; omega
      | false =>
        rw [hb] at HH
        have HR := Lib.hid (hx hb)
        clear hx hb hn hX
        go_wp2_with fail
        refine HH.out.mono ?_
        rintro e w2 ⟨rfl, rfl⟩
        go_wp2_with fail
        go_ret
        rw [HR.out.symm]
        exact ⟨rfl, HB1.out⟩
    · obtain rfl : i = 4 := by omega
      have t1 : decide ((4 : Int) < 4) = false := by simp
      have hr := HE.out
      rw [HI.out] at hr
      have HR := Lib.hid hr
      clear hr
      go_wp2_with fail
      go_ret
      rw [HR.out.symm]
      exact ⟨rfl, HB1.out⟩
end Go.Proofs.Ytjogjmkfkmbjdaa.BL
